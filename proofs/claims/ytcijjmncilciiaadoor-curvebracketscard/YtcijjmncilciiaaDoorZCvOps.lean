/-
  The words' own reckoning of package curve: fused, below.
-/
import Derived.Test.YtcijjmncilciiaaDoorZCvM
import Derived.Test.YtcijjmncilciiaaDoorZCvD0ToBase
import Derived.Test.YtcijjmncilciiaaDoorChecked
import Derived.Test.YtcijjmncilciiaaDoorZGRow2ToSaBlk
import Derived.Deep.MidRow
import Derived.Shelf.Spec.BitsCarry
import Derived.Deep.RegionHeld3
namespace Go.Proofs.YtcijjmncilciiaaDoor
open Go.RowKit Go.IntWalk

theorem add64_c (x y c : Int) (hx : is64 x) (hy : is64 y) (hc : 0 ≤ c ∧ c ≤ 1) (w : World) :
    (callFunc 84 #[.int .u64 x, .int .u64 y, .int .u64 c]).run Tryd.prog w = .ok (.value (.tuple #[.int .u64 ((x + y + c) % 18446744073709551616), .int .u64 ((x + y + c) / 18446744073709551616)])) w := by
  rw [run_callFunc_extern Tryd.func84 (by kernel_rfl) (by kernel_rfl) (by kernel_rfl) (e := add64Entry) (by kernel_rfl), run_add64 x y c hx.1 hy.1 (by omega) (by omega)]
  simp only [Result.andThen_ok]

theorem sub64_c (x y c : Int) (hx : is64 x) (hy : is64 y) (hc : c = 0 ∨ c = 1) (w : World) :
    (callFunc 85 #[.int .u64 x, .int .u64 y, .int .u64 c]).run Tryd.prog w = .ok (.value (.tuple #[.int .u64 ((x - y - c) % 18446744073709551616), .int .u64 (if x < y + c then 1 else 0)])) w := by
  obtain ⟨hx0, hx1⟩ := hx
  obtain ⟨hy0, hy1⟩ := hy
  obtain ⟨X, rfl⟩ := Int.eq_ofNat_of_zero_le hx0
  obtain ⟨Y, rfl⟩ := Int.eq_ofNat_of_zero_le hy0
  obtain ⟨C, rfl⟩ := Int.eq_ofNat_of_zero_le (show 0 ≤ c by omega)
  rw [run_callFunc_extern Tryd.func85 (by kernel_rfl) (by kernel_rfl) (by kernel_rfl) (e := sub64Entry) (by kernel_rfl)]
  have := run_sub64 (P := Tryd.prog) X Y C (by omega) w
  rw [this]
  simp only [Result.andThen_ok]
  have e1 : (((X + 18446744073709551616 - Y - C) % 18446744073709551616 : Nat) : Int) = ((X : Int) - (Y : Int) - (C : Int)) % 18446744073709551616 := by omega
  have e2 : ((if X < Y + C then 1 else 0 : Nat) : Int) = if (X : Int) < (Y : Int) + (C : Int) then 1 else 0 := by split <;> split <;> omega
  rw [e1, e2]

theorem mul64_is (x y : Int) (hx : is64 x) (hy : is64 y) (w : World) :
    Calls Tryd.prog 94 #[.int .u64 x, .int .u64 y] w fun e w' => e = .returned (.tuple #[.int .u64 (x * y / 18446744073709551616), .int .u64 (x * y % 18446744073709551616)]) ∧ w' = w := by
  obtain ⟨hx0, hx1⟩ := hx
  obtain ⟨hy0, hy1⟩ := hy
  obtain ⟨X, rfl⟩ := Int.eq_ofNat_of_zero_le hx0
  obtain ⟨Y, rfl⟩ := Int.eq_ofNat_of_zero_le hy0
  have := Tryd.bits_Mul64 X Y (by omega) (by omega) w
  have e1 : ((X * Y / 18446744073709551616 : Nat) : Int) = (X : Int) * (Y : Int) / 18446744073709551616 := by rw [Int.natCast_ediv, Int.natCast_mul]; rfl
  have e2 : ((X * Y % 18446744073709551616 : Nat) : Int) = (X : Int) * (Y : Int) % 18446744073709551616 := by rw [Int.natCast_emod, Int.natCast_mul]; rfl
  rw [e1, e2] at this
  exact this

theorem fused_sum (p c d lo hi s1 o1 s2 o2 : Int) (hp : 0 ≤ p ∧ p ≤ 340282366920938463426481119284349108225) (hc : is64 c) (hd : is64 d) (h1 : hi = p / 18446744073709551616) (h2 : lo = p % 18446744073709551616) (h3 : s1 = (lo + c + 0) % 18446744073709551616) (h4 : o1 = (lo + c + 0) / 18446744073709551616) (h5 : s2 = (s1 + d + 0) % 18446744073709551616) (h6 : o2 = (s1 + d + 0) / 18446744073709551616) :
    s2 = (p + c + d) % 18446744073709551616 ∧ hi + o1 + o2 = (p + c + d) / 18446744073709551616 ∧ 0 ≤ hi + o1 ∧ hi + o1 < 18446744073709551616 ∧ 0 ≤ hi + o1 + o2 ∧ hi + o1 + o2 < 18446744073709551616 ∧ is64 lo ∧ is64 s1 := by unfold is64 at *; omega

set_option maxRecDepth 100000 in
set_option maxHeartbeats 1000000 in
theorem fused_any (a b c d : Int) (ha : is64 a) (hb : is64 b) (hc : is64 c) (hd : is64 d) (w : World) :
    Calls Tryd.prog 86 #[.int .u64 a, .int .u64 b, .int .u64 c, .int .u64 d] w fun e w' => e = .returned (.tuple #[.int .u64 ((a * b + c + d) / 18446744073709551616), .int .u64 ((a * b + c + d) % 18446744073709551616)]) ∧ w' = w := by
  have HP := mul_is64 ha hb
  obtain ⟨hi, hhi⟩ : ∃ hi, hi = a * b / 18446744073709551616 := ⟨_, rfl⟩
  obtain ⟨lo, hlo⟩ : ∃ lo, lo = a * b % 18446744073709551616 := ⟨_, rfl⟩
  have hmul : ∀ W, Calls Tryd.prog 94 #[.int .u64 a, .int .u64 b] W fun e w' => e = .returned (.tuple #[.int .u64 hi, .int .u64 lo]) ∧ w' = W := by
    intro W
    rw [hhi, hlo]
    exact mul64_is a b ha hb W
  have HM := hide hmul
  clear hmul
  obtain ⟨s1, hs1⟩ : ∃ s1, s1 = (lo + c + 0) % 18446744073709551616 := ⟨_, rfl⟩
  obtain ⟨o1, ho1⟩ : ∃ o1, o1 = (lo + c + 0) / 18446744073709551616 := ⟨_, rfl⟩
  obtain ⟨s2, hs2⟩ : ∃ s2, s2 = (s1 + d + 0) % 18446744073709551616 := ⟨_, rfl⟩
  obtain ⟨o2, ho2⟩ : ∃ o2, o2 = (s1 + d + 0) / 18446744073709551616 := ⟨_, rfl⟩
  obtain ⟨q0, q1, q2, q3, q4, q5, q6, q7⟩ := fused_sum _ _ _ _ _ _ _ _ _ HP hc hd hhi hlo hs1 ho1 hs2 ho2
  have hA1 : ∀ W : World, (callFunc 84 #[.int .u64 lo, .int .u64 c, .int .u64 0]).run Tryd.prog W = .ok (.value (.tuple #[.int .u64 s1, .int .u64 o1])) W := by
    intro W; rw [hs1, ho1]; exact add64_c lo c 0 q6 hc (by omega) W
  have hA2 : ∀ W : World, (callFunc 84 #[.int .u64 s1, .int .u64 d, .int .u64 0]).run Tryd.prog W = .ok (.value (.tuple #[.int .u64 s2, .int .u64 o2])) W := by
    intro W; rw [hs2, ho2]; exact add64_c s1 d 0 q7 hd (by omega) W
  have w1 : IntKind.u64.wrap (hi + o1) = hi + o1 := by rw [IntKind.wrap_u64]; omega
  have w2 : IntKind.u64.wrap (hi + o1 + o2) = hi + o1 + o2 := by rw [IntKind.wrap_u64]; omega
  rw [← q0, ← q1]
  clear q0 q1 hs1 ho1 hs2 ho2 hhi hlo HP q2 q3 q4 q5 q6 q7
  go_enter Tryd.func86, Tryd.ntmps86
  go_wp2_with ((go_at_call 94; refine (HM.out _).mono ?_; rintro e w1 ⟨rfl, hw⟩; have hw2 := hw.symm; subst hw2))
  go_ret2
  exact ⟨rfl, rfl⟩


/-- A result that lies in a variable. -/
theorem res_one {fn : Func} {p : Tmp} {ty : TypeId} (h : fn.results = #[.cell p ty]) (tmps : Array Value) (w : World) {g : Nat} {X : List Value} {d : TypeDesc} {T : TypeId} (hp : tmps.getD p undef = .pointer (some ⟨g, 0, none⟩))
    (hu : Tryd.prog.underlying ty = some d) (hd : d.isRow = true) (hi : (Tryd.prog.info? ty).map (·.size) = some X.length) (hB : Blk T w g X) :
    (results fn tmps).run Tryd.prog w = .ok (.agg X.toArray) w := by
  have := run_loadVar_mid (P := Tryd.prog) w g 0 ty X d (Blk.range (A := []) (C := []) (by simpa using hB) 0 rfl) hu hd hi
  have hp' : tmps[p]?.getD undef = .pointer (some ⟨g, 0, none⟩) := by simpa using hp
  simp only [results, h]
  simp [hp', asAddr, this]

/-- What a call answers that tells a number. -/
def Rn (x : Int) (w : World) (e : Ending) (w' : World) : Prop := ∃ r0 r1 r2 r3, e = .returned (.agg #[.int .u64 r0, .int .u64 r1, .int .u64 r2, .int .u64 r3]) ∧ Nw r0 r1 r2 r3 x ∧ Below w.heap.size w w'

set_option maxRecDepth 100000 in
set_option maxHeartbeats 1000000 in
theorem below_any (s0 s1 s2 s3 top : Int) (h0 : is64 s0) (h1 : is64 s1) (h2 : is64 s2) (h3 : is64 s3) (ht : 0 ≤ top) (hv : V4 s0 s1 s2 s3 + RR * top < 2 * PP) (w : World) :
    Calls Tryd.prog 83 #[.int .u64 s0, .int .u64 s1, .int .u64 s2, .int .u64 s3, .int .u64 top] w (Rn ((V4 s0 s1 s2 s3 + RR * top) % PP) w) := by
  obtain ⟨r0, e0⟩ : ∃ r, r = (s0 - 18446744073709551615) % 18446744073709551616 := ⟨_, rfl⟩
  obtain ⟨b0, c0⟩ : ∃ b : Int, b = if s0 < 18446744073709551615 then 1 else 0 := ⟨_, rfl⟩
  obtain ⟨r1, e1⟩ : ∃ r, r = (s1 - 4294967295 - b0) % 18446744073709551616 := ⟨_, rfl⟩
  obtain ⟨b1, c1⟩ : ∃ b : Int, b = if s1 < 4294967295 + b0 then 1 else 0 := ⟨_, rfl⟩
  obtain ⟨r2, e2⟩ : ∃ r, r = (s2 - 0 - b1) % 18446744073709551616 := ⟨_, rfl⟩
  obtain ⟨b2, c2⟩ : ∃ b : Int, b = if s2 < 0 + b1 then 1 else 0 := ⟨_, rfl⟩
  obtain ⟨r3, e3⟩ : ∃ r, r = (s3 - 18446744069414584321 - b2) % 18446744073709551616 := ⟨_, rfl⟩
  obtain ⟨b3, c3⟩ : ∃ b : Int, b = if s3 < 18446744069414584321 + b2 then 1 else 0 := ⟨_, rfl⟩
  have HW := hide (below_words s0 s1 s2 s3 top r0 r1 r2 r3 b0 b1 b2 b3 h0 h1 h2 h3 ht hv e0 c0 e1 c1 e2 c2 e3 c3)
  have k0 : b0 = 0 ∨ b0 = 1 := by rw [c0]; split <;> simp
  have k1 : b1 = 0 ∨ b1 = 1 := by rw [c1]; split <;> simp
  have k2 : b2 = 0 ∨ b2 = 1 := by rw [c2]; split <;> simp
  have hA0 : ∀ W : World, (callFunc 85 #[.int .u64 s0, .int .u64 18446744073709551615, .int .u64 0]).run Tryd.prog W = .ok (.value (.tuple #[.int .u64 r0, .int .u64 b0])) W := by
    intro W; rw [e0, c0]; have := sub64_c s0 18446744073709551615 0 h0 ⟨by omega, by omega⟩ (by omega) W; simpa using this
  have hA1 : ∀ W : World, (callFunc 85 #[.int .u64 s1, .int .u64 4294967295, .int .u64 b0]).run Tryd.prog W = .ok (.value (.tuple #[.int .u64 r1, .int .u64 b1])) W := by
    intro W; rw [e1, c1]; exact sub64_c s1 4294967295 b0 h1 ⟨by omega, by omega⟩ k0 W
  have hA2 : ∀ W : World, (callFunc 85 #[.int .u64 s2, .int .u64 0, .int .u64 b1]).run Tryd.prog W = .ok (.value (.tuple #[.int .u64 r2, .int .u64 b2])) W := by
    intro W; rw [e2, c2]; exact sub64_c s2 0 b1 h2 ⟨by omega, by omega⟩ k1 W
  have hA3 : ∀ W : World, (callFunc 85 #[.int .u64 s3, .int .u64 18446744069414584321, .int .u64 b2]).run Tryd.prog W = .ok (.value (.tuple #[.int .u64 r3, .int .u64 b3])) W := by
    intro W; rw [e3, c3]; exact sub64_c s3 18446744069414584321 b2 h3 ⟨by omega, by omega⟩ k2 W
  clear e0 c0 e1 c1 e2 c2 e3 c3 k0 k1 k2 h0 h1 h2 h3 ht hv
  by_cases hb : top < b3
  · have HV := hide (HW.out.1 hb)
    clear HW
    go_enter Tryd.func83, Tryd.ntmps83
    go_wp2
    refine bodyPost_ret (v := .agg #[.int .u64 s0, .int .u64 s1, .int .u64 s2, .int .u64 s3]) ?_ rfl ⟨s0, s1, s2, s3, rfl, HV.out, (Below.refl _ _).alloc (Nat.le_refl _) _⟩
    exact res_one (T := 70) (p := 10) (ty := 70) (g := w.heap.size) (X := [.int .u64 s0, .int .u64 s1, .int .u64 s2, .int .u64 s3]) (by kernel_rfl) _ _ rfl Tryd.underlying70 rfl (by kernel_rfl) (Blk.new w _ _ _ rfl rfl)
  · have HV := hide (HW.out.2 hb)
    clear HW
    go_enter Tryd.func83, Tryd.ntmps83
    go_wp2
    refine bodyPost_ret (v := .agg #[.int .u64 r0, .int .u64 r1, .int .u64 r2, .int .u64 r3]) ?_ rfl ⟨r0, r1, r2, r3, rfl, HV.out, (Below.refl _ _).alloc (Nat.le_refl _) _⟩
    exact res_one (T := 70) (p := 10) (ty := 70) (g := w.heap.size) (X := [.int .u64 r0, .int .u64 r1, .int .u64 r2, .int .u64 r3]) (by kernel_rfl) _ _ rfl Tryd.underlying70 rfl (by kernel_rfl) (Blk.new w _ _ _ rfl rfl)

/-- Loads and stores of whole arrays and structs, kept whole in the walk. -/
def ldA (t : TypeId) (v : Value) : Sem Value := Instr.loadAt t v
def stA (t : TypeId) (v u : Value) : Sem Unit := Instr.storeAt t v u
theorem ld_num (v : Value) : Instr.loadAt 70 v = ldA 70 v := rfl
theorem ld_pln (v : Value) : Instr.loadAt 99 v = ldA 99 v := rfl
theorem ld_tri (v : Value) : Instr.loadAt 72 v = ldA 72 v := rfl
theorem ld_ops (v : Value) : Instr.loadAt 67 v = ldA 67 v := rfl
theorem ld_pnt (v : Value) : Instr.loadAt 25 v = ldA 25 v := rfl
theorem ld_dig (v : Value) : Instr.loadAt 23 v = ldA 23 v := rfl
theorem st_num (v u : Value) : Instr.storeAt 70 v u = stA 70 v u := rfl
theorem st_pln (v u : Value) : Instr.storeAt 99 v u = stA 99 v u := rfl
theorem st_tri (v u : Value) : Instr.storeAt 72 v u = stA 72 v u := rfl
theorem st_ops (v u : Value) : Instr.storeAt 67 v u = stA 67 v u := rfl
theorem st_pnt (v u : Value) : Instr.storeAt 25 v u = stA 25 v u := rfl
theorem st_dig (v u : Value) : Instr.storeAt 23 v u = stA 23 v u := rfl

theorem ldA_mid {t : TypeId} {d : TypeDesc} {T : TypeId} {w : World} {g o : Nat} {A X C : List Value} (hu : Tryd.prog.underlying t = some d) (hd : d.isRow = true) (hi : (Tryd.prog.info? t).map (·.size) = some X.length) (h : Blk T w g (A ++ X ++ C)) (ho : A.length = o) :
    (ldA t (.pointer (some ⟨g, o, none⟩))).run Tryd.prog w = .ok (.agg X.toArray) w := run_loadAt_mid w g o t X d (h.range o ho) hu hd hi

theorem stA_mid {t : TypeId} {T : TypeId} {w : World} {g o : Nat} {A X C vs : List Value} (hi : (Tryd.prog.info? t).map (·.size) = some vs.length) (h : Blk T w g (A ++ X ++ C)) (ho : A.length = o) (hl : X.length = vs.length) (h1 : ∀ v ∈ vs, v.oneCell' = true) :
    (stA t (.pointer (some ⟨g, o, none⟩)) (.agg vs.toArray)).run Tryd.prog w = .ok () (w.setCells g o vs) := by
  have := run_storeAt_mid (P := Tryd.prog) w g o t vs.toArray (h.there o _ (by simp; omega)) (by simpa using hi) (all_oneCell_toArray h1)
  simpa [stA] using this

theorem ldA_all {t : TypeId} {d : TypeDesc} {T : TypeId} {w : World} {g : Nat} {X : List Value} (hu : Tryd.prog.underlying t = some d) (hd : d.isRow = true) (hi : (Tryd.prog.info? t).map (·.size) = some X.length) (h : Blk T w g X) :
    (ldA t (.pointer (some ⟨g, 0, none⟩))).run Tryd.prog w = .ok (.agg X.toArray) w := ldA_mid (A := []) (C := []) hu hd hi (by simpa using h) rfl

theorem stA_all {t : TypeId} {T : TypeId} {w : World} {g : Nat} {X vs : List Value} (hi : (Tryd.prog.info? t).map (·.size) = some vs.length) (h : Blk T w g X) (hl : X.length = vs.length) (h1 : ∀ v ∈ vs, v.oneCell' = true) :
    (stA t (.pointer (some ⟨g, 0, none⟩)) (.agg vs.toArray)).run Tryd.prog w = .ok () (w.setCells g 0 vs) := stA_mid (A := []) (C := []) hi (by simpa using h) rfl hl h1

theorem blk_all {T : TypeId} {w : World} {g : Nat} {X vs : List Value} (h : Blk T w g X) (hl : X.length = vs.length) : Blk T (w.setCells g 0 vs) g vs := by
  have := Blk.sets vs 0 X w h (by omega)
  simpa [← hl] using this

theorem Blk.later {T : TypeId} {w W w' : World} {g : Nat} {L : List Value} (h : Blk T w g L) (hb : Below W.heap.size W w') (e : W.heap = w.heap) : Blk T w' g L := (h.heap e).below hb
theorem below_drew {w W w' : World} (h : Below w.heap.size w W) {V : World} (d : Drew W V) (k : Below V.heap.size V w') : Below w.heap.size w w' := (d.below h).trans (k.mono (d.below h).size)

theorem below_sets {B g : Nat} {w W : World} (h : Below B w W) (hg : B ≤ g) (hB : B ≤ W.heap.size) (o : Nat) (vs : List Value) : Below B w (W.setCells g o vs) :=
  h.grown (gSets g vs o W).1 hB (fun k hk => by simp at hk; omega)

theorem below_then {w W V : World} (h : Below w.heap.size w W) (k : Below W.heap.size W V) : Below w.heap.size w V := h.trans (k.mono h.size)
theorem below1 (w : World) (a : Obj) : Below w.heap.size w (w.alloc a) := (Below.refl _ _).alloc (Nat.le_refl _) _
theorem below2 (w : World) (a b : Obj) : Below w.heap.size w ((w.alloc a).alloc b) := (below1 w a).alloc (by simp) _
theorem below3 (w : World) (a b c : Obj) : Below w.heap.size w (((w.alloc a).alloc b).alloc c) := (below2 w a b).alloc (by simp; omega) _

theorem belowd1 {w : World} {a : Obj} {w' : World} (k : Below (w.alloc a).drew.heap.size (w.alloc a).drew w') : Below w.heap.size w w' := below_drew (below1 w a) (by exact ⟨rfl, rfl, rfl, rfl⟩) k
theorem belowd2 {w : World} {a b : Obj} {w' : World} (k : Below ((w.alloc a).alloc b).drew.heap.size ((w.alloc a).alloc b).drew w') : Below w.heap.size w w' := below_drew (below2 w a b) (by exact ⟨rfl, rfl, rfl, rfl⟩) k
theorem belowd3 {w : World} {a b c : Obj} {w' : World} (k : Below (((w.alloc a).alloc b).alloc c).drew.heap.size (((w.alloc a).alloc b).alloc c).drew w') : Below w.heap.size w w' := below_drew (below3 w a b c) (by exact ⟨rfl, rfl, rfl, rfl⟩) k

def L4 (a0 a1 a2 a3 : Int) : List Value := [.int .u64 a0, .int .u64 a1, .int .u64 a2, .int .u64 a3]
theorem L4_one (a0 a1 a2 a3 : Int) : ∀ v ∈ L4 a0 a1 a2 a3, v.oneCell' = true := by
  intro v hv
  simp only [L4, List.mem_cons, List.not_mem_nil, or_false] at hv
  rcases hv with rfl | rfl | rfl | rfl <;> rfl

theorem ld4 {T : TypeId} {w : World} {g : Nat} {a0 a1 a2 a3 : Int} (h : Blk T w g (L4 a0 a1 a2 a3)) : (ldA 70 (.pointer (some ⟨g, 0, none⟩))).run Tryd.prog w = .ok (.agg #[.int .u64 a0, .int .u64 a1, .int .u64 a2, .int .u64 a3]) w :=
  ldA_all Tryd.underlying70 rfl (by kernel_rfl) h
theorem ldp4 {T : TypeId} {w : World} {g : Nat} {a0 a1 a2 a3 : Int} (h : Blk T w g (L4 a0 a1 a2 a3)) : (ldA 99 (.pointer (some ⟨g, 0, none⟩))).run Tryd.prog w = .ok (.agg #[.int .u64 a0, .int .u64 a1, .int .u64 a2, .int .u64 a3]) w :=
  ldA_all Tryd.underlying99 rfl (by kernel_rfl) h
theorem st4 {T : TypeId} {w : World} {g : Nat} {z0 z1 z2 z3 : Int} (h : Blk T w g (L4 z0 z1 z2 z3)) (a0 a1 a2 a3 : Int) : (stA 70 (.pointer (some ⟨g, 0, none⟩)) (.agg #[.int .u64 a0, .int .u64 a1, .int .u64 a2, .int .u64 a3])).run Tryd.prog w = .ok () (w.setCells g 0 (L4 a0 a1 a2 a3)) :=
  stA_all (vs := L4 a0 a1 a2 a3) (by kernel_rfl) h rfl (L4_one _ _ _ _)
theorem stp4 {T : TypeId} {w : World} {g : Nat} {z0 z1 z2 z3 : Int} (h : Blk T w g (L4 z0 z1 z2 z3)) (a0 a1 a2 a3 : Int) : (stA 99 (.pointer (some ⟨g, 0, none⟩)) (.agg #[.int .u64 a0, .int .u64 a1, .int .u64 a2, .int .u64 a3])).run Tryd.prog w = .ok () (w.setCells g 0 (L4 a0 a1 a2 a3)) :=
  stA_all (vs := L4 a0 a1 a2 a3) (by kernel_rfl) h rfl (L4_one _ _ _ _)

/-- The end of a call that tells a number in a variable. -/
theorem ret4 {fn : Func} {p : Tmp} (h : fn.results = #[.cell p 70]) {tmps : Array Value} {w w1 : World} {T : TypeId} {g : Nat} {z0 z1 z2 z3 a0 a1 a2 a3 x : Int} (hp : tmps.getD p undef = .pointer (some ⟨g, 0, none⟩))
    (HZ : Blk T w1 g (L4 z0 z1 z2 z3)) (HN : Nw a0 a1 a2 a3 x) (LB : Below w.heap.size w w1) (hg : w.heap.size ≤ g) :
    bodyPost Tryd.prog fn (Rn x w) .ret { tmps := tmps, defers := [] } (w1.setCells g 0 (L4 a0 a1 a2 a3)) := by
  refine bodyPost_ret (v := .agg #[.int .u64 a0, .int .u64 a1, .int .u64 a2, .int .u64 a3]) ?_ rfl ⟨a0, a1, a2, a3, rfl, HN, below_sets LB hg LB.size _ _⟩
  exact res_one (T := T) (p := p) (ty := 70) (X := L4 a0 a1 a2 a3) h _ _ hp Tryd.underlying70 rfl (by kernel_rfl) (blk_all HZ rfl)

theorem retn4 {fn : Func} {p : Tmp} (h : fn.results = #[.cell p 70]) {tmps : Array Value} {w w1 : World} {T : TypeId} {g : Nat} {a0 a1 a2 a3 x : Int} (hp : tmps.getD p undef = .pointer (some ⟨g, 0, none⟩))
    (hg : g = w1.heap.size) (HN : Nw a0 a1 a2 a3 x) (LB : Below w.heap.size w w1) :
    bodyPost Tryd.prog fn (Rn x w) .ret { tmps := tmps, defers := [] } (w1.alloc (.cells #[.int .u64 a0, .int .u64 a1, .int .u64 a2, .int .u64 a3] T)) := by
  refine bodyPost_ret (v := .agg #[.int .u64 a0, .int .u64 a1, .int .u64 a2, .int .u64 a3]) ?_ rfl ⟨a0, a1, a2, a3, rfl, HN, LB.alloc LB.size _⟩
  exact res_one (T := T) (p := p) (ty := 70) (X := L4 a0 a1 a2 a3) h _ _ hp Tryd.underlying70 rfl (by kernel_rfl) (Blk.new w1 _ _ _ rfl hg)

end Go.Proofs.YtcijjmncilciiaaDoor
