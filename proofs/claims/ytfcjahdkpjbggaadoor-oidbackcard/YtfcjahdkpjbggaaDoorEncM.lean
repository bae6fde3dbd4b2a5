/-
  Contents of object identifiers: what is written is read as it was, and what is read is written as it was. Plain.
-/
import Derived.Test.YtfcjahdkpjbggaaDoorOEnc
import Derived.Test.YtfcjahdkpjbggaaDoorDecS
import Derived.Test.YtfcjahdkpjbggaaDoorNextM
namespace Go.Proofs.YtfcjahdkpjbggaaDoor
open Go.RowKit

theorem pow_pos (k : Nat) : (0 : Int) < ((128 ^ k : Nat) : Int) := by have := Nat.pow_pos (n := k) (show 0 < 128 by omega); omega

theorem pow_next (N : Int) (k : Nat) : N / ((128 ^ (k + 1) : Nat) : Int) = N / ((128 ^ k : Nat) : Int) / 128 := by
  rw [Int.ediv_ediv_of_nonneg (Int.le_of_lt (pow_pos k))]
  congr 1

theorem pow_le (N : Int) (h : 0 ≤ N) (k : Nat) : 0 ≤ N / ((128 ^ k : Nat) : Int) ∧ N / ((128 ^ k : Nat) : Int) ≤ N := by
  have hp := pow_pos k
  refine ⟨Int.ediv_nonneg h (Int.le_of_lt hp), Int.ediv_le_self _ h⟩

/-- The bytes of a number are read as it. -/
theorem nextGo_put (N : Int) (h0 : 0 ≤ N) (h1 : N ≤ 2147483647) (r : List Int) : ∀ (j k : Nat), nextGo (N / ((128 ^ (j + 1) : Nat) : Int)) k (hiB N j ++ (N % 128) :: r) = (N, k + j + 1, 0)
  | 0, k => by
    have e : N / ((128 ^ (0 + 1) : Nat) : Int) = N / 128 := by simp
    rw [e, hiB, List.nil_append, nextGo, if_neg (by omega), if_pos (by omega)]
    have e2 : 128 * (N / 128) + N % 128 % 128 = N := by omega
    rw [e2]
  | j + 1, k => by
    have ih := nextGo_put N h0 h1 r j (k + 1)
    have e := pow_next N (j + 1)
    obtain ⟨p0, p1⟩ := pow_le N h0 (j + 1)
    rw [hiB, List.cons_append, nextGo]
    have e2 : 128 * (N / ((128 ^ (j + 1 + 1) : Nat) : Int)) + (N / ((128 ^ (j + 1) : Nat) : Int) % 128 + 128) % 128 = N / ((128 ^ (j + 1) : Nat) : Int) := by rw [e]; omega
    rw [e2, if_neg (by omega), if_neg (by omega), ih]
    congr 2
    omega

theorem size_cases (N : Int) (h0 : 0 ≤ N) (h1 : N ≤ 2147483647) : ∃ j : Nat, (sizeS N - 1).toNat = j ∧ N / ((128 ^ (j + 1) : Nat) : Int) = 0 ∧ (j = 0 ∨ N / ((128 ^ j : Nat) : Int) % 128 ≠ 0) := by
  unfold sizeS
  split
  · exact ⟨0, rfl, by simp; omega, .inl rfl⟩
  · split
    · exact ⟨1, rfl, by simp; omega, .inr (by simp; omega)⟩
    · split
      · exact ⟨2, rfl, by simp; omega, .inr (by simp; omega)⟩
      · split
        · exact ⟨3, rfl, by simp; omega, .inr (by simp; omega)⟩
        · exact ⟨4, rfl, by simp; omega, .inr (by simp; omega)⟩

theorem nextS_put (N : Int) (h0 : 0 ≤ N) (h1 : N ≤ 2147483647) (r : List Int) : nextS (numB N ++ r) = (N, (numB N).length, 0) := by
  obtain ⟨j, hj, hz, hn⟩ := size_cases N h0 h1
  have hl : (numB N).length = j + 1 := by unfold numB; rw [List.length_append, hiB_len, hj]; rfl
  have h := nextGo_put N h0 h1 r j 0
  rw [hz] at h
  unfold nextS
  rw [if_neg, hl]
  · unfold numB
    rw [hj, List.append_assoc]
    simpa using h
  · unfold numB
    rw [hj, List.append_assoc]
    cases j with
    | zero => rw [hiB]; simp; omega
    | succ j =>
      rw [hiB]
      rcases hn with hn | hn
      · omega
      · simp only [List.cons_append, List.head?_cons, Option.some.injEq]
        omega

/-- What is read of bytes as a number are its bytes. -/
theorem nextGo_take : ∀ (l : List Int) (n : Int) (k : Nat) (N : Int) (K : Nat), 0 ≤ n → (∀ x ∈ l, 0 ≤ x ∧ x < 256) → nextGo n k l = (N, K, 0) → ∃ m : Nat, K = k + m + 1 ∧ n = N / ((128 ^ (m + 1) : Nat) : Int) ∧ l.take (m + 1) = hiB N m ++ [N % 128]
  | [], n, k, N, K, _, _, h => by simp [nextGo] at h
  | x :: l, n, k, N, K, h0, hb, h => by
    have hx := hb x (by simp)
    rw [nextGo] at h
    split at h
    · simp at h
    · split at h
      · rename_i g1 g2
        simp only [Prod.mk.injEq, and_true] at h
        obtain ⟨rfl, rfl⟩ := h
        refine ⟨0, rfl, by simp; omega, ?_⟩
        rw [hiB]
        simp
        omega
      · rename_i g1 g2
        obtain ⟨m, e1, e2, e3⟩ := nextGo_take l _ _ N K (by omega) (fun y hy => hb y (List.mem_cons_of_mem _ hy)) h
        refine ⟨m + 1, by omega, ?_, ?_⟩
        · rw [pow_next N (m + 1), ← e2]
          omega
        · rw [List.take_succ_cons, e3, hiB, ← e2]
          have : (128 * n + x % 128) % 128 + 128 = x := by omega
          rw [this]
          rfl

theorem nextS_take (l : List Int) (N : Int) (k : Nat) (hb : ∀ x ∈ l, 0 ≤ x ∧ x < 256) (h : nextS l = (N, k, 0)) : l.take k = numB N := by
  have hs := nextS_size l hb (by rw [h])
  rw [h] at hs
  unfold nextS at h
  split at h
  · simp at h
  · obtain ⟨m, e1, _, e3⟩ := nextGo_take l 0 0 N k (by omega) hb h
    have hk : k = m + 1 := by omega
    subst hk
    have hs : sizeS N = ((m + 1 : Nat) : Int) := hs
    rw [e3]
    unfold numB
    have e : (sizeS N - 1).toNat = m := by rw [hs]; omega
    rw [e]

/-- What is written is read as it was. -/
theorem decG_put (xs : List Int) : ∀ (rest acc : List Int) (p : Nat), p ≤ xs.length → xs.drop p = (rest.map numB).flatten → (∀ x ∈ rest, 0 ≤ x ∧ x ≤ 2147483647) → acc.length + rest.length ≤ 20 → decG xs acc p = (acc ++ rest, 0)
  | [], acc, p, hp, hd, _, _ => by
    rw [decG_end xs acc p (by have := List.drop_eq_nil_iff.1 hd; omega), List.append_nil]
  | y :: r, acc, p, hp, hd, hv, hl => by
    have hy := hv y (by simp)
    have hn := nextS_put y hy.1 hy.2 ((r.map numB).flatten)
    have hlen : 0 < (numB y).length := by have := numB_len y; have := (sizeS_in y).1; omega
    have hd' : xs.drop p = numB y ++ (r.map numB).flatten := by rw [hd]; simp
    have hll := congrArg List.length hd'
    rw [List.length_drop, List.length_append] at hll
    simp only [List.length_cons] at hl
    rw [decG_next xs acc p (by omega) (by omega) (by rw [hd', hn]), hd', hn]
    rw [decG_put xs r (acc ++ [y]) (p + (numB y).length) (by omega) (by rw [← List.drop_drop, hd']; simp) (fun x hx => hv x (List.mem_cons_of_mem _ hx)) (by simp; omega)]
    simp

theorem dec_enc (l : List Int) (hm : mayS l = true) : decS (encS l) = (l, 0) := by
  obtain ⟨h2, h20, hv, hpair⟩ := may_parts hm
  obtain ⟨f0, f1, f2, f3, f4, f5⟩ := first_in hm
  obtain ⟨a, b, r, rfl⟩ : ∃ a b r, l = a :: b :: r := by
    match l, h2 with
    | a :: b :: r, _ => exact ⟨a, b, r, rfl⟩
  have f0 : 0 ≤ 40 * a + b := f0
  have f1 : 40 * a + b ≤ 2147483647 := f1
  have f2 : 0 ≤ a := f2
  have f3 : a ≤ 2 := f3
  have f4 : 0 ≤ b := f4
  have hpair : pairB a b = true := hpair
  have hn := nextS_put (40 * a + b) f0 f1 ((r.map numB).flatten)
  have he : encS (a :: b :: r) = numB (40 * a + b) ++ (r.map numB).flatten := rfl
  unfold decS
  rw [he, hn, if_pos rfl]
  have hf : firstS (40 * a + b) = [a, b] := by
    have hp : a < 2 → b ≤ 39 := by
      intro h
      unfold pairB at hpair
      rw [if_pos h] at hpair
      exact of_decide_eq_true hpair
    unfold firstS
    split
    · have ea : a = 0 := by omega
      have eb : 40 * a + b = b := by omega
      rw [eb, ea]
    · split
      · have ea : a = 1 := by omega
        have eb : 40 * a + b - 40 = b := by omega
        rw [eb, ea]
      · have ea : a = 2 := by omega
        have eb : 40 * a + b - 80 = b := by omega
        rw [eb, ea]
  rw [hf, decG_put _ r [a, b] _ (by simp) (by simp) (fun x hx => hv x (by simp [hx])) (by simp at h20 ⊢; omega)]
  rfl

theorem decG_take (xs : List Int) (hb : ∀ x ∈ xs, 0 ≤ x ∧ x < 256) : ∀ (f : Nat) (acc : List Int) (p : Nat) (out : List Int), xs.length - p ≤ f → p ≤ xs.length → acc.length ≤ 20 → acc ≠ [] → decG xs acc p = (out, 0) →
    ∃ rest, out = acc ++ rest ∧ xs.drop p = (rest.map numB).flatten ∧ (∀ x ∈ rest, 0 ≤ x ∧ x ≤ 2147483647) ∧ out.length ≤ 20
  | f, acc, p, out, hf, hp, hl, hne, h => by
    by_cases hlt : p < xs.length
    · by_cases h20 : acc.length = 20
      · rw [decG_many xs acc p hlt h20] at h
        simp at h
      · by_cases he : (nextS (xs.drop p)).2.2 = 0
        · have hin := nextS_in (xs.drop p) he
          rw [List.length_drop] at hin
          rw [decG_next xs acc p hlt h20 he] at h
          cases f with
          | zero => omega
          | succ f =>
            obtain ⟨rest, e1, e2, e3, e4⟩ := decG_take xs hb f _ _ out (by omega) (by omega) (by simp; omega) (by simp) h
            have ht := nextS_take (xs.drop p) (nextS (xs.drop p)).1 (nextS (xs.drop p)).2.1 (fun x hx => hb x (List.mem_of_mem_drop hx)) (by rw [← he])
            refine ⟨(nextS (xs.drop p)).1 :: rest, by rw [e1]; simp, ?_, fun x hx => ?_, e4⟩
            · rw [List.map_cons, List.flatten_cons, ← e2, ← ht, ← List.drop_drop, List.take_append_drop]
            · rcases List.mem_cons.1 hx with rfl | hx
              · exact ⟨hin.1, hin.2.1⟩
              · exact e3 x hx
        · rw [decG_bad xs acc p hlt h20 he] at h
          simp only [Prod.mk.injEq] at h
          exact absurd h.2 he
    · rw [decG_end xs acc p hlt] at h
      simp only [Prod.mk.injEq, and_true] at h
      subst h
      refine ⟨[], by simp, ?_, by simp, hl⟩
      rw [List.drop_of_length_le (by omega)]
      rfl

/-- What is read is written as it was. -/
theorem enc_dec (xs l : List Int) (hb : ∀ x ∈ xs, 0 ≤ x ∧ x < 256) (h : decS xs = (l, 0)) : mayS l = true ∧ encS l = xs := by
  unfold decS at h
  split at h
  · rename_i he
    have hin := nextS_in xs he
    have ht := nextS_take xs (nextS xs).1 (nextS xs).2.1 hb (by rw [← he])
    generalize (nextS xs).1 = N at *
    generalize (nextS xs).2.1 = k at *
    obtain ⟨rest, e1, e2, e3, e4⟩ := decG_take xs hb xs.length (firstS N) k l (by omega) hin.2.2.2 (by rw [firstS_len]; omega) (by intro e; have := firstS_len N; rw [e] at this; simp at this) h
    obtain ⟨a, b, hf, hab, ha0, ha2, hb0, hb1, hpr⟩ : ∃ a b, firstS N = [a, b] ∧ 40 * a + b = N ∧ 0 ≤ a ∧ a ≤ 2 ∧ 0 ≤ b ∧ b ≤ 2147483647 ∧ (a < 2 → b < 40) := by
      unfold firstS
      split
      · exact ⟨0, N, rfl, by omega, by omega, by omega, by omega, by omega, fun _ => by omega⟩
      · split
        · exact ⟨1, N - 40, rfl, by omega, by omega, by omega, by omega, by omega, fun _ => by omega⟩
        · exact ⟨2, N - 80, rfl, by omega, by omega, by omega, by omega, by omega, fun h => by omega⟩
    rw [hf] at e1
    subst e1
    refine ⟨?_, ?_⟩
    · unfold mayS
      simp only [List.cons_append, List.nil_append, List.length_cons] at e4 ⊢
      rw [decide_eq_true (by omega), decide_eq_true (by omega)]
      have hall : (a :: b :: rest).all arcB = true := by
        rw [List.all_eq_true]
        intro x hx
        have hx2 : 0 ≤ x ∧ x ≤ 2147483647 := by
          rcases List.mem_cons.1 hx with rfl | hx
          · omega
          · rcases List.mem_cons.1 hx with rfl | hx
            · omega
            · exact e3 x hx
        unfold arcB
        rw [decide_eq_true hx2.1, decide_eq_true hx2.2]
        rfl
      rw [hall]
      show (true && true && true && pairB a b) = true
      have hp : pairB a b = true := by
        unfold pairB
        split
        · exact decide_eq_true (by have := hpr (by assumption); omega)
        · rw [if_pos (by omega)]
          exact decide_eq_true (by have := hin.2.1; omega)
      rw [hp]
      rfl
    · show numB (40 * a + b) ++ (rest.map numB).flatten = xs
      rw [hab, ← ht, ← e2, List.take_append_drop]
  · simp only [Prod.mk.injEq] at h
    exact absurd h.2 (by assumption)

end Go.Proofs.YtfcjahdkpjbggaaDoor
