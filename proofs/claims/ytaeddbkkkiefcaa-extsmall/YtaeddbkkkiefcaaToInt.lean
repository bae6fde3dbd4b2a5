/-
  num.isInteger, num.ToInt: what they tell of any bytes, as plain functions.
-/
import Derived.Test.YtaeddbkkkiefcaaBare
namespace Go.Proofs.Ytaeddbkkkiefcaa
open Go.RowKit Go.IntWalk

def isIntS : List Int → Bool
  | [] => false
  | [_] => true
  | x :: y :: _ => !idleS x y

def valF (n : Int) (r : List Int) : Int := r.foldl (fun n x => n * 256 + x) n
def sgn (x : Int) : Int := if 128 ≤ x then x - 256 else x
def valS : List Int → Int
  | [] => 0
  | x :: r => valF (sgn x) r

theorem valF_cons (n x : Int) (r : List Int) : valF n (x :: r) = valF (n * 256 + x) r := rfl
theorem valF_snoc (n x : Int) (r : List Int) : valF n (r ++ [x]) = valF n r * 256 + x := by simp [valF]

theorem valF_in : ∀ (r : List Int) (n A : Int), (∀ x ∈ r, 0 ≤ x ∧ x < 256) → -A ≤ n → n < A → -(A * 256 ^ r.length) ≤ valF n r ∧ valF n r < A * 256 ^ r.length
  | [], n, A, _, h0, h1 => by simp [valF]; omega
  | x :: r, n, A, hb, h0, h1 => by
    have hx := hb x (List.mem_cons_self ..)
    have ih := valF_in r (n * 256 + x) (A * 256) (fun y hy => hb y (List.mem_cons_of_mem _ hy)) (by omega) (by omega)
    rw [valF_cons, List.length_cons, Int.pow_succ]
    rw [Int.mul_assoc A 256, Int.mul_comm 256] at ih
    exact ih

theorem wrap_i8 (x : Int) : IntKind.i8.wrap x = (x + 128) % 256 - 128 := by
  simp [IntKind.wrap, IntKind.bits, IntKind.signed]
  omega

theorem or256w (n d : Int) (h0 : -36028797018963968 ≤ n) (h1 : n < 36028797018963968) (h2 : 0 ≤ d) (h3 : d < 256) : bits .or .i64 (n * 256) d = n * 256 + d := by
  obtain ⟨B, rfl⟩ := Int.eq_ofNat_of_zero_le h2
  obtain ⟨A, hA⟩ := Int.eq_ofNat_of_zero_le (show 0 ≤ n % 72057594037927936 by omega)
  have ka : (BitVec.ofInt 64 (n * 256)).toNat = A * 256 := by rw [BitVec.toNat_ofInt]; omega
  have kb : (BitVec.ofInt 64 (B : Int)).toNat = B := by rw [BitVec.ofInt_natCast, BitVec.toNat_ofNat]; omega
  show IntKind.i64.wrap ((BitVec.ofInt 64 (n * 256) ||| BitVec.ofInt 64 (B : Int)).toNat : Nat) = _
  rw [BitVec.toNat_or, ka, kb]
  have hor : A * 256 ||| B = A * 256 + B := by
    rw [show A * 256 = A <<< 8 by rw [Nat.shiftLeft_eq], ← Nat.shiftLeft_add_eq_or_of_lt (by omega : B < 2 ^ 8)]
  rw [hor, IntKind.wrap_i64]
  omega

set_option maxRecDepth 100000 in
set_option maxHeartbeats 1000000 in
theorem isInteger_any (ao : Option Addr) (n cap : Nat) (xs : List Int) (w : World) (hs : Src w ao n cap xs) :
    Calls Try.prog 97 #[.slice ao n cap] w fun e w' => e = .returned (.bool (isIntS xs)) ∧ ∃ q, w' = w.drewN q := by
  have hl := hs.hlen
  match xs, hs, hl with
  | [], hs, hl =>
    obtain rfl : n = 0 := by simpa using hl.symm
    go_enter Try.func97, Try.ntmps97
    go_wp2_with fail
    go_quiet (fail)
    go_wp2
    go_ret
    exact ⟨rfl, _, rfl⟩
  | [x], hs, hl =>
    obtain rfl : n = 1 := by simpa using hl.symm
    go_enter Try.func97, Try.ntmps97
    go_wp2_with fail
    go_quiet (fail)
    go_wp2
    go_ret
    exact ⟨rfl, _, rfl⟩
  | x :: y :: r, hs, hl =>
    obtain ⟨q, rfl⟩ : ∃ q, n = q + 2 := ⟨n - 2, by simp at hl; omega⟩
    obtain ⟨b, off, rfl, hc⟩ := hs.hrd (by simp)
    have c0 := hc 0 (by simp)
    have c1 := hc 1 (by simp)
    simp only [Nat.add_zero, List.getD, List.getElem?_cons_zero, List.getElem?_cons_succ, Option.getD_some] at c0 c1
    clear hc
    have g1 : decide ((q : Int) + 2 = 1) = false := by simp; omega
    have g2 : (((q : Int) + 2) == 1) = false := by simp; omega
    have g3 : decide (1 < (q : Int) + 2) = true := by simp; omega
    go_enter Try.func97, Try.ntmps97
    go_wp2_with fail
    go_quiet ((go_at_call 99; exact Calls.quiet_of_same (idle_any x y _)))
    go_wp2
    go_ret
    exact ⟨rfl, _, rfl⟩

def toIntE (xs : List Int) : Int := if isIntS xs then (if 8 < xs.length then 21 else 0) else 20
def toIntV (xs : List Int) : Int := if isIntS xs then (if 8 < xs.length then 0 else valS xs) else 0

theorem toInt_bad (xs : List Int) (h : isIntS xs = false) : toIntE xs = 20 ∧ toIntV xs = 0 := by simp [toIntE, toIntV, h]
theorem toInt_big (xs : List Int) (h : isIntS xs = true) (h8 : 8 < xs.length) : toIntE xs = 21 ∧ toIntV xs = 0 := by simp [toIntE, toIntV, h, h8]
theorem toInt_ok (xs : List Int) (h : isIntS xs = true) (h8 : ¬ 8 < xs.length) : toIntE xs = 0 ∧ toIntV xs = valS xs := by simp [toIntE, toIntV, h, h8]

theorem take_nextI (r : List Int) (k : Nat) (h : k < r.length) : r.take (k + 1) = r.take k ++ [r.getD k 0] := by
  rw [List.take_add_one]
  simp [List.getD, h]

theorem pow_in (k : Nat) (h : k ≤ 6) (n : Int) (hn : -(128 * 256 ^ k) ≤ n ∧ n < 128 * 256 ^ k) : -36028797018963968 ≤ n ∧ n < 36028797018963968 := by
  rcases (show k = 0 ∨ k = 1 ∨ k = 2 ∨ k = 3 ∨ k = 4 ∨ k = 5 ∨ k = 6 by omega) with rfl | rfl | rfl | rfl | rfl | rfl | rfl <;> simp at hn <;> omega

set_option maxRecDepth 100000 in
set_option maxHeartbeats 1000000 in
theorem toInt_any (ao : Option Addr) (n cap : Nat) (xs : List Int) (w : World) (hs : Src w ao n cap xs) :
    Calls Try.prog 91 #[.slice ao n cap] w fun e w' => e = .returned (.tuple #[.int .i64 (toIntV xs), .int .i64 (toIntE xs)]) ∧ Drawn w w' := by
  have HL := hide hs.hlen
  have Hc := hide (isInteger_any ao n cap xs w hs)
  have hN : n ≤ 9223372036854775807 := by have h1 := hs.hcap; have h2 := hs.hmax; unfold maxLen at h2; omega
  by_cases h : isIntS xs = true
  · rw [h] at Hc
    by_cases h8 : 8 < n
    · obtain ⟨e1, e2⟩ := toInt_big xs h (by rw [HL.out]; exact h8)
      rw [e1, e2]
      clear e1 e2
      have h8i : (8 : Int) < n := by omega
      go_enter Try.func91, Try.ntmps91
      go_wp2_with fail
      refine Hc.out.mono ?_
      rintro e w0 ⟨rfl, q, rfl⟩
      go_wp2
      exact bodyPost_ret (v := .tuple #[.int .i64 0, .int .i64 21]) (by simp [results, Try.results91, go_sem]) rfl ⟨rfl, (Drawn.refl _).more q⟩
    · obtain ⟨e1, e2⟩ := toInt_ok xs h (by rw [HL.out]; exact h8)
      rw [e1, e2]
      clear e1 e2
      match xs, hs, HL, h with
      | [], _, _, h => simp [isIntS] at h
      | x :: r, hs, HL, h =>
        obtain ⟨m, rfl⟩ : ∃ m, n = m + 1 := ⟨n - 1, by have := HL.out; simp at this; omega⟩
        have hlr : Hid (r.length = m) := by have := HL.out; simp at this; exact this
        have hby := hide hs.hbyt
        obtain ⟨b, off, rfl, hc⟩ := hs.hrd (by simp)
        have c0 := hc 0 (by simp)
        simp only [Nat.add_zero, List.getD, List.getElem?_cons_zero, Option.getD_some] at c0
        have hcr : Hid (∀ k, k < m → w.cell? ⟨b, off + 1 + k, none⟩ = some (.int .u8 (r.getD k 0))) := by
          intro k hk
          have := hc (k + 1) (by have := hlr.out; simp; omega)
          rw [show off + (k + 1) = off + 1 + k by omega] at this
          rw [this]
          simp [List.getD]
        clear hc
        obtain ⟨x0, x1⟩ := hby.out x (List.mem_cons_self ..)
        have hm7 : m ≤ 7 := by omega
        have hcap : m + 1 ≤ cap := hs.hcap
        have sl := fun W => slice_lo W (some ⟨b, off, none⟩) (m + 1) cap 1 1 rfl (by omega)
        have hA : m = 0 ∨ cutA (some ⟨b, off, none⟩) cap 1 = some ⟨b, off + 1, none⟩ := by
          rcases Nat.eq_zero_or_pos m with h | h
          · exact .inl h
          · right; unfold cutA; rw [if_neg (by omega)]; simp [add_none]
        generalize cutA (some ⟨b, off, none⟩) cap 1 = A at sl hA
        simp only [Nat.add_sub_cancel] at sl
        have hs0 : IntKind.i8.wrap x = sgn x := by rw [wrap_i8]; unfold sgn; split <;> omega
        have hs1 : -128 ≤ sgn x ∧ sgn x < 128 := by unfold sgn; split <;> omega
        have hval : valS (x :: r) = valF (sgn x) r := rfl
        rw [hval]
        clear hval
        have HV := hide (fun k => valF_in (r.take k) (sgn x) 128 (fun y hy => hby.out y (List.mem_cons_of_mem _ (List.mem_of_mem_take hy))) hs1.1 hs1.2)
        obtain ⟨y0, y1⟩ := hs1
        generalize sgn x = N at hs0 y0 y1 HV ⊢
        go_enter Try.func91, Try.ntmps91
        go_wp2_with fail
        refine Hc.out.mono ?_
        rintro e w0 ⟨rfl, q, rfl⟩
        go_wp2
        go_loop [4, 21] (fun v i => ∃ k : Nat, k ≤ m ∧ i = .int .i64 k ∧ v = .int .i64 (valF N (r.take k))) (fun _ i => m - (intOf i).toNat)
        case atStart => exact ⟨0, Nat.zero_le _, rfl, rfl⟩
        case round =>
          obtain ⟨k, hk, rfl, rfl⟩ := hrel
          by_cases hlt : k < m
          · obtain rfl : A = some ⟨b, off + 1, none⟩ := by rcases hA with h | h; omega; exact h
            have hck := hcr.out k hlt
            have hb := hby.out (r.getD k 0) (List.mem_cons_of_mem _ (by rw [List.getD, List.getElem?_eq_getElem (by rw [hlr.out]; exact hlt)]; exact List.getElem_mem _))
            have hnx := hide (take_nextI r k (by rw [hlr.out]; exact hlt))
            have hin := pow_in k (by omega) (valF N (r.take k)) (by have := HV.out k; rw [List.length_take, hlr.out, Nat.min_eq_left hk] at this; exact this)
            have hnv := hide (valF_snoc N (r.getD k 0) (r.take k))
            generalize r.getD k 0 = d at hck hb hnx hnv
            generalize valF N (r.take k) = V at hin hnv ⊢
            obtain ⟨v0, v1⟩ := hin
            obtain ⟨d0, d1⟩ := hb
            have ho := or256w V d v0 v1 d0 d1
            have hw : IntKind.i64.wrap (V * 256) = V * 256 := i64_in _ (by omega)
            go_wp2
            go_round
            case rel => exact ⟨k + 1, by omega, by go_num, by rw [hnx.out, hnv.out]⟩
            case measure => simp [intOf]; omega
          · obtain rfl : k = m := by omega
            rw [List.take_of_length_le (by rw [hlr.out]; exact Nat.le_refl _)]
            go_wp2
            exact bodyPost_ret (v := .tuple #[.int .i64 (valF N r), .int .i64 0]) (by simp [results, Try.results91, go_sem]) rfl ⟨rfl, (Drawn.refl _).more q⟩
  · simp only [Bool.not_eq_true] at h
    rw [h] at Hc
    obtain ⟨e1, e2⟩ := toInt_bad xs h
    rw [e1, e2]
    clear e1 e2
    go_enter Try.func91, Try.ntmps91
    go_wp2_with fail
    refine Hc.out.mono ?_
    rintro e w0 ⟨rfl, q, rfl⟩
    go_wp2
    exact bodyPost_ret (v := .tuple #[.int .i64 0, .int .i64 20]) (by simp [results, Try.results91, go_sem]) rfl ⟨rfl, (Drawn.refl _).more q⟩

end Go.Proofs.Ytaeddbkkkiefcaa
