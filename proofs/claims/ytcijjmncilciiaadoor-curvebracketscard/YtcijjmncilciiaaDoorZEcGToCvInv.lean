/-
  How many times a point; n times the base is the far point. Plain facts.
  curve's inverse: the power p - 2.
-/
import Derived.Test.YtcijjmncilciiaaDoorZEcCToEcJ
import Derived.Test.YtcijjmncilciiaaDoorZCvSpr
import Derived.Deep.DeepCutAuto
namespace Go.Proofs.YtcijjmncilciiaaDoor

/-- A point, so many times. -/
def tms : Nat → Option (Int × Int) → Option (Int × Int)
  | 0, _ => none
  | n + 1, p => padd (tms n p) p
theorem tms_ok {p : Option (Int × Int)} (h : Ok p) : ∀ n, Ok (tms n p)
  | 0 => True.intro
  | n + 1 => padd_ok (tms_ok h n) h
theorem tms_none : ∀ n, tms n none = none
  | 0 => rfl
  | n + 1 => by rw [tms, tms_none n]; rfl
theorem tms_one (p : Option (Int × Int)) : tms 1 p = p := by rw [tms, tms, far_padd]
theorem tms_add {p : Option (Int × Int)} (h : Ok p) (m : Nat) : ∀ n, tms (m + n) p = padd (tms m p) (tms n p)
  | 0 => by rw [Nat.add_zero, tms, padd_far]
  | n + 1 => by
    show padd (tms (m + n) p) p = padd (tms m p) (padd (tms n p) p)
    rw [tms_add h m n, padd_assoc (tms_ok h m) (tms_ok h n) h]
theorem tms_mul {p : Option (Int × Int)} (h : Ok p) (n : Nat) : ∀ m, tms (m * n) p = tms m (tms n p)
  | 0 => by rw [Nat.zero_mul]; rfl
  | m + 1 => by rw [Nat.succ_mul, tms_add h, tms_mul h n m]; rfl
theorem tms_dbl {p : Option (Int × Int)} (h : Ok p) (m : Nat) : tms (2 * m) p = tms m (padd p p) := by
  have e : tms 2 p = padd p p := by rw [tms, tms_one]
  rw [Nat.mul_comm, tms_mul h, e]

/-- The number that these bits say. -/
def bn (b : Nat → Bool) : Nat → Nat
  | 0 => 0
  | i + 1 => 2 * bn b i + (if b i then 1 else 0)
theorem pmul_tms {b : Nat → Bool} {p : Option (Int × Int)} (h : Ok p) : ∀ i, pmul b p i = tms (bn b i) p
  | 0 => rfl
  | i + 1 => by
    rw [pmul, bn, pmul_tms h i]
    have e : tms (2 * bn b i) p = padd (tms (bn b i) p) (tms (bn b i) p) := by rw [Nat.two_mul, tms_add h]
    cases b i
    · rw [if_neg (by decide), if_neg (by decide), Nat.add_zero, e]
    · rw [if_pos rfl, if_pos rfl, tms, e]

/-- The sum of two triples, reduced; the times of a triple, bit by bit. -/
def trp (u v : Int × Int × Int) : Int × Int × Int :=
  (sX BB u.1 u.2.1 u.2.2 v.1 v.2.1 v.2.2 % PP, sY BB u.1 u.2.1 u.2.2 v.1 v.2.1 v.2.2 % PP, sZ BB u.1 u.2.1 u.2.2 v.1 v.2.1 v.2.2 % PP)
def pm : Nat → Nat → Int × Int × Int → Int × Int × Int → Int × Int × Int
  | 0, _, _, a => a
  | f + 1, e, t, a => match e % 2 with
    | 0 => pm f (e / 2) (trp t t) a
    | _ + 1 => pm f (e / 2) (trp t t) (trp a t)
theorem trp_rep {u v : Int × Int × Int} {p q : Option (Int × Int)} (hp : Ok p) (hq : Ok q) (hu : Rep u.1 u.2.1 u.2.2 p) (hv : Rep v.1 v.2.1 v.2.2 q) :
    Rep (trp u v).1 (trp u v).2.1 (trp u v).2.2 (padd p q) :=
  rep_cg (Cg.md _) (Cg.md _) (Cg.md _) (rep_sum hp hq hu hv)
theorem pm_rep : ∀ (f e : Nat) (t a : Int × Int × Int) (p q : Option (Int × Int)), e < 2 ^ f → Ok p → Ok q → Rep t.1 t.2.1 t.2.2 p → Rep a.1 a.2.1 a.2.2 q →
    Rep (pm f e t a).1 (pm f e t a).2.1 (pm f e t a).2.2 (padd q (tms e p))
  | 0, e, t, a, p, q, h, hp, hq, ht, ha => by
    have : e = 0 := by rw [Nat.pow_zero] at h; omega
    subst this
    rw [tms, padd_far]
    exact ha
  | f + 1, e, t, a, p, q, h, hp, hq, ht, ha => by
    have h2 : e / 2 < 2 ^ f := by rw [Nat.pow_succ] at h; omega
    have hd := Nat.div_add_mod e 2
    have hpp := padd_ok hp hp
    rw [pm]
    split
    · rename_i h0
      have ee : e = 2 * (e / 2) := by omega
      have IH := pm_rep f (e / 2) (trp t t) a (padd p p) q h2 hpp hq (trp_rep hp hp ht ht) ha
      rw [← tms_dbl hp, ← ee] at IH
      exact IH
    · rename_i n h0
      have ee : e = 2 * (e / 2) + 1 := by omega
      have IH := pm_rep f (e / 2) (trp t t) (trp a t) (padd p p) (padd q p) h2 hpp (padd_ok hq hp) (trp_rep hp hp ht ht) (trp_rep hq hp ha ht)
      rw [← tms_dbl hp, padd_assoc hq hp (tms_ok hp _), padd_comm hp (tms_ok hp _)] at IH
      have e2 : padd (tms (2 * (e / 2)) p) p = tms e p := by
        show tms (2 * (e / 2) + 1) p = _
        rw [← ee]
      rw [e2] at IH
      exact IH

theorem one_nd' : ¬ D 1 := by intro h; have := Int.le_of_dvd (by decide) h; exact absurd this (by decide)

/-- The base. -/
def gx : Int := 48439561293906451759052585252797914202762949526041747995844080717082404635286
def gy : Int := 36134250956749795798585127919587881956611106672985015071877198253568414405109
theorem g_ok : Ok (some (gx, gy)) := ⟨⟨by decide, by decide⟩, ⟨by decide, by decide⟩, Int.dvd_of_emod_eq_zero (by decide +kernel)⟩
theorem pm_n : (pm 256 NNat (gx, gy, 1) (0, 1, 0)).2.2 = 0 := by decide +kernel
theorem order_of {f e : Nat} {x y : Int} (hk : Ok (some (x, y))) (he : e < 2 ^ f) (hz : (pm f e (x, y, 1) (0, 1, 0)).2.2 = 0) : tms e (some (x, y)) = none := by
  have ht : Rep x y 1 (some (x, y)) := ⟨one_nd', Cg.of_eq (Int.mul_one x).symm, Cg.of_eq (Int.mul_one y).symm⟩
  have ha : Rep 0 1 0 none := ⟨⟨0, by omega⟩, one_nd', ⟨0, by omega⟩⟩
  have h := pm_rep f e (x, y, 1) (0, 1, 0) (some (x, y)) none he hk True.intro ht ha
  rw [hz, far_padd] at h
  generalize tms e (some (x, y)) = r at h ⊢
  match r, h with
  | none, _ => rfl
  | some (u, v), h => exact absurd (show D 0 from ⟨0, by omega⟩) h.1
theorem n_lt : NNat < 2 ^ 256 := by decide
theorem order_g : tms NNat (some (gx, gy)) = none := order_of g_ok n_lt pm_n
theorem order_all (k : Nat) : tms NNat (tms k (some (gx, gy))) = none := by
  rw [← tms_mul g_ok, Nat.mul_comm, tms_mul g_ok, order_g, tms_none]
theorem tms_mod (k : Nat) : tms (k % NNat) (some (gx, gy)) = tms k (some (gx, gy)) := by
  have h := Nat.div_add_mod k NNat
  have e : tms (NNat * (k / NNat) + k % NNat) (some (gx, gy)) = tms (k % NNat) (some (gx, gy)) := by
    rw [tms_add g_ok, Nat.mul_comm, tms_mul g_ok, order_g, tms_none, far_padd]
  rw [h] at e
  exact e.symm

end Go.Proofs.YtcijjmncilciiaaDoor

namespace Go.Proofs.YtcijjmncilciiaaDoor
open Go.RowKit Go.IntWalk
attribute [local go_sem ↓] ld_num st_num ld_pln st_pln

/-- The power's words, the highest first; what the first k of them say; all of them. -/
def eW (k : Nat) : Nat := [18446744069414584321, 0, 4294967295, 18446744073709551613].getD k 0
def ePre : Nat → Nat
  | 0 => 0
  | k + 1 => ePre k * 18446744073709551616 + eW k
def EE : Nat := 115792089210356248762697446949407573530086143415290314195533631308867097853949
theorem ePre_4 : ePre 4 = EE := by decide
theorem eW_lt (k : Nat) : eW k < 18446744073709551616 := by
  rcases k with _ | _ | _ | _ | k
  · decide
  · decide
  · decide
  · decide
  · show (0 : Nat) < _; decide

theorem bit_step {N m Q i b : Nat} (h : N * 18446744073709551616 + m = 2 ^ i * Q) (hb : m / 9223372036854775808 = b) (hm : m < 18446744073709551616) : (2 * N + b) * 18446744073709551616 + 2 * m % 18446744073709551616 = 2 ^ (i + 1) * Q ∧ (b = 0 ∨ b = 1) := by
  have e : 2 ^ (i + 1) * Q = 2 * (2 ^ i * Q) := by rw [Nat.pow_succ]; grind
  rw [e, ← h]
  omega
theorem bit_end {N m Q : Nat} (h : N * 18446744073709551616 + m = 2 ^ 64 * Q) (hm : m < 18446744073709551616) : N = Q := by
  rw [show (2 : Nat) ^ 64 = 18446744073709551616 from rfl] at h
  omega
theorem bit_start (k : Nat) : ePre k * 18446744073709551616 + eW k = 2 ^ 0 * ePre (k + 1) := by rw [Nat.pow_zero, Nat.one_mul]; rfl

theorem ix_e (k : Nat) (hk : k < 4) (w : World) : (Instr.index 69 (.agg #[.int .u64 18446744069414584321, .int .u64 0, .int .u64 4294967295, .int .u64 18446744073709551613]) (.int .i64 (k : Int))).run Tryd.prog w = .ok (.int .u64 (eW k : Nat)) w := by
  rcases k with _ | _ | _ | _ | k
  · kernel_rfl
  · kernel_rfl
  · kernel_rfl
  · kernel_rfl
  · omega

theorem mpw_dbl (x : Int) (N : Nat) : mm (mpw x N) (mpw x N) = mpw x (2 * N) := by rw [mpw_add, Nat.two_mul]

/-- What stays while inverse runs, and how far it is. -/
structure Iv (w : World) (a0 a1 a2 a3 x : Int) (N : Nat) (W : World) : Prop where
  ka : Blk 70 W w.heap.size (L4 a0 a1 a2 a3)
  kz : Blk 70 W (w.heap.size + 1) (L4 0 0 0 0)
  kr : ∃ r0 r1 r2 r3, Blk 70 W (w.heap.size + 1 + 1) (L4 r0 r1 r2 r3) ∧ Nw r0 r1 r2 r3 (mpw x N)
  bl : Below w.heap.size w W

theorem Iv.times {w W V : World} {a0 a1 a2 a3 x : Int} {N M : Nat} {r0 r1 r2 r3 : Int} (h : Iv w a0 a1 a2 a3 x N W) (b : Below W.heap.size W V) (hN : Nw r0 r1 r2 r3 (mpw x M)) : Iv w a0 a1 a2 a3 x M (V.setCells (w.heap.size + 1 + 1) 0 (L4 r0 r1 r2 r3)) := by
  obtain ⟨s0, s1, s2, s3, hs, _⟩ := h.kr
  exact ⟨(h.ka.below b).other (by omega), (h.kz.below b).other (by omega), ⟨r0, r1, r2, r3, blk_all (hs.below b) rfl, hN⟩, below_sets (below_then h.bl b) (by omega) (below_then h.bl b).size _ _⟩

set_option maxRecDepth 100000 in
set_option maxHeartbeats 2000000 in
theorem inverse_any (a0 a1 a2 a3 x : Int) (ha : Nw a0 a1 a2 a3 x) (w : World) (hC : Cv w) :
    Calls Tryd.prog 67 #[.agg #[.int .u64 a0, .int .u64 a1, .int .u64 a2, .int .u64 a3]] w (Rn (mpw x EE) w) := by
  have HA := hide ha
  have hone := L4_one a0 a1 a2 a3
  have hgl : (ldA 70 (.pointer (some ⟨4, 0, none⟩))).run Tryd.prog ((w.alloc (.cells #[.int .u64 a0, .int .u64 a1, .int .u64 a2, .int .u64 a3] 70)).alloc (.cells #[.int .u64 0, .int .u64 0, .int .u64 0, .int .u64 0] 70)) = .ok (.agg #[.int .u64 1, .int .u64 18446744069414584320, .int .u64 18446744073709551615, .int .u64 4294967294]) ((w.alloc (.cells #[.int .u64 a0, .int .u64 a1, .int .u64 a2, .int .u64 a3] 70)).alloc (.cells #[.int .u64 0, .int .u64 0, .int .u64 0, .int .u64 0] 70)) := ldA_range Tryd.underlying70 rfl (by kernel_rfl) ((hC.alloc _).alloc _).on
  have hst := st4n ((w.alloc (.cells #[.int .u64 a0, .int .u64 a1, .int .u64 a2, .int .u64 a3] 70)).alloc (.cells #[.int .u64 0, .int .u64 0, .int .u64 0, .int .u64 0] 70)) 1 18446744069414584320 18446744073709551615 4294967294
  have I0 : Hid (Iv w a0 a1 a2 a3 x 0 (((w.alloc (.cells #[.int .u64 a0, .int .u64 a1, .int .u64 a2, .int .u64 a3] 70)).alloc (.cells #[.int .u64 0, .int .u64 0, .int .u64 0, .int .u64 0] 70)).alloc (.cells #[.int .u64 1, .int .u64 18446744069414584320, .int .u64 18446744073709551615, .int .u64 4294967294] 70))) :=
    ⟨((Blk.new w _ _ _ rfl rfl).alloc _).alloc _, (Blk.new _ (L4 0 0 0 0) _ _ rfl (by simp)).alloc _, ⟨_, _, _, _, Blk.new _ (L4 1 18446744069414584320 18446744073709551615 4294967294) _ _ rfl (by simp), one_w⟩, below3 w _ _ _⟩
  simp at hst
  clear ha hC
  go_enter Tryd.func67, Tryd.ntmps67
  go_wp2
  generalize (((w.alloc (.cells #[.int .u64 a0, .int .u64 a1, .int .u64 a2, .int .u64 a3] 70)).alloc (.cells #[.int .u64 0, .int .u64 0, .int .u64 0, .int .u64 0] 70)).alloc (.cells #[.int .u64 1, .int .u64 18446744069414584320, .int .u64 18446744073709551615, .int .u64 4294967294] 70)) = V at I0 ⊢
  clear hgl hst hone
  go_loopw [5, 8] (fun _ iv wr => ∃ (k : Nat), iv = .int .i64 (k : Int) ∧ k ≤ 4 ∧ Hid (Iv w a0 a1 a2 a3 x (ePre k) wr)) (fun _ iv _ => 4 - (intOf iv).toNat)
  case atStart => exact ⟨0, rfl, by omega, I0⟩
  case round =>
    clear I0
    obtain ⟨k, rfl, hk, HI⟩ := hrel
    by_cases hk4 : k < 4
    · have hix := ix_e k hk4
      obtain ⟨m0, hm0⟩ : ∃ m, eW k = m := ⟨_, rfl⟩
      have HM0 := hide hm0
      rw [hm0] at hix
      have kb : (k : Int) ≤ 3 := by omega
      have hkd : decide ((k : Int) < 4) = true := by simp; omega
      clear hm0
      go_wp2
      go_loopw [5, 11] (fun wv iv wr => ∃ (i N m : Nat), iv = .int .i64 (i : Int) ∧ i ≤ 64 ∧ wv = .int .u64 (m : Int) ∧ Hid (N * 18446744073709551616 + m = 2 ^ i * ePre (k + 1)) ∧ Hid (m < 18446744073709551616) ∧ Hid (Iv w a0 a1 a2 a3 x N wr)) (fun _ iv _ => 64 - (intOf iv).toNat)
      case atStart => exact ⟨0, ePre k, m0, rfl, by omega, rfl, by rw [← HM0.out]; exact bit_start k, by rw [← HM0.out]; exact eW_lt k, HI⟩
      case round =>
        clear HI hix
        obtain ⟨i, N, m, rfl, hi, rfl, HQ, HM, HI⟩ := hrel
        by_cases hi64 : i < 64
        · obtain ⟨b, hb⟩ : ∃ b, m / 9223372036854775808 = b := ⟨_, rfl⟩
          obtain ⟨hq, hb01⟩ := bit_step HQ.out hb HM.out
          obtain ⟨m', hm'⟩ : ∃ m', 2 * m % 18446744073709551616 = m' := ⟨_, rfl⟩
          rw [hm'] at hq
          have HQ' := hide hq
          have HM' : Hid (m' < 18446744073709551616) := by unfold Hid; omega
          have wsh : IntKind.u64.wrap ((m : Int) * 2) = (m' : Int) := by have := HM.out; rw [IntKind.wrap_u64]; omega
          have dsh : (m : Int) / 9223372036854775808 = (b : Int) := by omega
          obtain ⟨r0, r1, r2, r3, hr, hN⟩ := HI.out.kr
          have ld := ld4 hr
          have HN := hide hN
          have HT1 : Hid (∀ W, Calls Tryd.prog 62 #[.agg #[.int .u64 r0, .int .u64 r1, .int .u64 r2, .int .u64 r3], .agg #[.int .u64 r0, .int .u64 r1, .int .u64 r2, .int .u64 r3]] W (Rn (mpw x (2 * N)) W)) := by
            intro W
            have := times_any r0 r1 r2 r3 r0 r1 r2 r3 _ _ hN hN.i0 hN.i1 hN.i2 hN.i3 hN.v W
            rw [mpw_dbl] at this
            exact this
          have ib : (i : Int) ≤ 63 := by omega
          clear hb hq hm' hr hN HQ HM
          rcases hb01 with rfl | rfl
          · go_wp2_with fail
            refine (HT1.out _).mono ?_
            rintro e w1 ⟨s0, s1, s2, s3, rfl, hS, LB⟩
            have HI1 := hide (HI.out.times LB hS)
            obtain ⟨t0, t1, t2, t3, ht, _⟩ := HI.out.kr
            have hst := st4 (ht.below LB) s0 s1 s2 s3
            clear ht LB
            go_wp2
            go_roundw
            case rel => exact ⟨i + 1, 2 * N + 0, m', by go_num, by omega, rfl, HQ', HM', HI1⟩
            case measure => simp [intOf]; omega
          · have HT2 : Hid (∀ s0 s1 s2 s3, Nw s0 s1 s2 s3 (mpw x (2 * N)) → ∀ W, Calls Tryd.prog 62 #[.agg #[.int .u64 s0, .int .u64 s1, .int .u64 s2, .int .u64 s3], .agg #[.int .u64 a0, .int .u64 a1, .int .u64 a2, .int .u64 a3]] W (Rn (mpw x (2 * N + 1)) W)) := by
              intro s0 s1 s2 s3 hS W
              exact times_any s0 s1 s2 s3 a0 a1 a2 a3 _ _ hS HA.out.i0 HA.out.i1 HA.out.i2 HA.out.i3 HA.out.v W
            go_wp2_with fail
            refine (HT1.out _).mono ?_
            rintro e w1 ⟨s0, s1, s2, s3, rfl, hS, LB⟩
            have HI1 := hide (HI.out.times LB hS)
            obtain ⟨t0, t1, t2, t3, ht, _⟩ := HI.out.kr
            have hst := st4 (ht.below LB) s0 s1 s2 s3
            have HS := hide hS
            have HLD := hide (ld4 (blk_all (vs := L4 s0 s1 s2 s3) (ht.below LB) rfl))
            have HLA := hide (ld4 HI1.out.ka)
            clear ht LB hS ld
            go_upto_region 9 with fail
            generalize w1.setCells (w.heap.size + 1 + 1) 0 (L4 s0 s1 s2 s3) = V1 at HI1 HLD HLA ⊢
            have ld1 := HLD.out
            have lda := HLA.out
            go_wp2_with fail
            refine (HT2.out s0 s1 s2 s3 HS.out _).mono ?_
            rintro e w2 ⟨v0, v1, v2, v3, rfl, hV, LB⟩
            have HI2 := hide (HI1.out.times LB hV)
            obtain ⟨t0, t1, t2, t3, ht, _⟩ := HI1.out.kr
            have hst2 := st4 (ht.below LB) v0 v1 v2 v3
            clear ht LB hV
            go_wp2
            go_roundw
            case rel => exact ⟨i + 1, 2 * N + 1, m', by go_num, by omega, rfl, HQ', HM', HI2⟩
            case measure => simp [intOf]; omega
        · obtain rfl : i = 64 := by omega
          have hN := bit_end HQ.out HM.out
          subst hN
          go_wp2
          go_roundw
          case rel => exact ⟨k + 1, by go_num, by omega, HI⟩
          case measure => simp [intOf]; omega
    · obtain rfl : k = 4 := by omega
      have hI := HI.out
      rw [ePre_4] at hI
      obtain ⟨r0, r1, r2, r3, hr, hN⟩ := hI.kr
      have ld := ld4 hr
      have st := st4 hI.kz r0 r1 r2 r3
      have HK := hide hI
      have HN := hide hN
      clear hr hN hI HI
      go_wp2
      exact ret4 (p := 2) (by kernel_rfl) rfl HK.out.kz HN.out HK.out.bl (by omega)

end Go.Proofs.YtcijjmncilciiaaDoor
