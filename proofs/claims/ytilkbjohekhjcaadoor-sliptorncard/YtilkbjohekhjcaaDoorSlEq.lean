/-
  A slip's bytes, put and taken: the laws that need no program.
-/
import Derived.Test.YtilkbjohekhjcaaDoorSlTake
namespace Go.Proofs.YtilkbjohekhjcaaDoor
open Go.RowKit Go.IntWalk

theorem list3 (xs : List Int) (h : 3 ≤ xs.length) : ∃ a b c r, xs = a :: b :: c :: r := by
  match xs, h with
  | a :: b :: c :: r, _ => exact ⟨a, b, c, r, rfl⟩
theorem list4 (xs : List Int) (h : 4 ≤ xs.length) : ∃ a b c d r, xs = a :: b :: c :: d :: r := by
  match xs, h with
  | a :: b :: c :: d :: r, _ => exact ⟨a, b, c, d, r, rfl⟩

theorem head_eq (xs : List Int) (hb : ∀ x ∈ xs, 0 ≤ x ∧ x < 256) (D : Nat) (hD : dataN xs = (D : Int)) (hl : D + 3 ≤ xs.length) : headB (xs.getD 0 0) ((xs.take (D + 3)).drop 3) = xs.take (D + 3) := by
  obtain ⟨a, b, c, r, rfl⟩ := list3 xs (by omega)
  have h1 := hb b (by simp)
  have h2 := hb c (by simp)
  simp only [dataN, List.getD_cons_succ, List.getD_cons_zero] at hD
  simp only [List.length_cons] at hl
  unfold headB
  simp only [List.getD_cons_zero, List.take_succ_cons, List.drop_succ_cons, List.drop_zero, List.length_take]
  rw [show min D r.length = D by omega, show (D : Int) % 256 = b by omega, show (D : Int) / 256 % 256 = c by omega]
  rfl

theorem le4_le4b (s : Int) (hs : 0 ≤ s ∧ s < 4294967296) (r : List Int) : le4 (le4b s ++ r) = s := by
  simp only [le4, le4b, List.cons_append, List.getD_cons_zero, List.getD_cons_succ]
  omega
theorem le4b_le4 (xs : List Int) (hb : ∀ x ∈ xs, 0 ≤ x ∧ x < 256) (hl : 4 ≤ xs.length) : le4b (le4 xs) = xs.take 4 := by
  obtain ⟨a, b, c, d, r, rfl⟩ := list4 xs hl
  have h1 := hb a (by simp)
  have h2 := hb b (by simp)
  have h3 := hb c (by simp)
  have h4 := hb d (by simp)
  simp only [le4, le4b, List.getD_cons_zero, List.getD_cons_succ, List.take_succ_cons, List.take_zero]
  congr 1
  · omega
  · congr 1
    · omega
    · congr 1
      · omega
      · congr 1; omega

theorem slip_iff (xs : List Int) (hb : ∀ x ∈ xs, 0 ≤ x ∧ x < 256) (D : Nat) (hD : dataN xs = (D : Int)) (hl : D + 7 ≤ xs.length) :
    slipB (xs.getD 0 0) ((xs.take (D + 3)).drop 3) = xs.take (D + 7) ↔ sumS (xs.take (D + 3)) = le4 (xs.drop (D + 3)) := by
  have hs := sumS_bd (xs.take (D + 3))
  have e : xs.take (D + 7) = xs.take (D + 3) ++ (xs.drop (D + 3)).take 4 := by rw [show D + 7 = D + 3 + 4 by omega, List.take_add]
  have h4 := le4b_le4 (xs.drop (D + 3)) (fun x hx => hb x (List.mem_of_mem_drop hx)) (by simp; omega)
  unfold slipB
  rw [head_eq xs hb D hD (by omega), e]
  constructor
  · intro h
    have h' := List.append_cancel_left h
    rw [← h4] at h'
    have := congrArg le4 h'
    have k1 := le4_le4b (sumS (xs.take (D + 3))) hs []
    have hbd : 0 ≤ le4 (xs.drop (D + 3)) ∧ le4 (xs.drop (D + 3)) < 4294967296 := by
      have q0 := byte_bd (xs := xs.drop (D + 3)) (fun x hx => hb x (List.mem_of_mem_drop hx)) 0
      have q1 := byte_bd (xs := xs.drop (D + 3)) (fun x hx => hb x (List.mem_of_mem_drop hx)) 1
      have q2 := byte_bd (xs := xs.drop (D + 3)) (fun x hx => hb x (List.mem_of_mem_drop hx)) 2
      have q3 := byte_bd (xs := xs.drop (D + 3)) (fun x hx => hb x (List.mem_of_mem_drop hx)) 3
      unfold le4
      omega
    have k2 := le4_le4b (le4 (xs.drop (D + 3))) hbd []
    simp only [List.append_nil] at k1 k2
    rw [← k1, this, k2]
  · intro h
    rw [h, h4]

/-- Of a slip's bytes, with anything behind them, the slip is told. -/
theorem dataN_slip (k : Int) (ds r : List Int) (hd : ds.length ≤ 65535) : dataN (slipB k ds ++ r) = (ds.length : Int) := by
  simp only [slipB, headB, dataN, List.cons_append, List.nil_append, List.getD_cons_zero, List.getD_cons_succ]
  omega
theorem find_slip (k : Int) (ds r : List Int) (hd : ds.length ≤ 65535) : findS (slipB k ds ++ r) = ((ds.length : Int) + 7, 0) := by
  have hD := dataN_slip k ds r hd
  have hlen : (slipB k ds ++ r).length = ds.length + 7 + r.length := by rw [List.length_append, slipB_len]
  unfold findS
  rw [hD, if_neg (by rw [hlen]; omega), if_neg (by rw [hlen]; omega), Int.toNat_natCast]
  have e1 : (slipB k ds ++ r).take (ds.length + 3) = headB k ds := by
    unfold slipB
    rw [List.append_assoc, List.take_append_of_le_length (by rw [headB_len]; exact Nat.le_refl _), List.take_of_length_le (by rw [headB_len]; exact Nat.le_refl _)]
  have e2 : (slipB k ds ++ r).drop (ds.length + 3) = le4b (sumS (headB k ds)) ++ r := by
    unfold slipB
    rw [List.append_assoc, ← headB_len k ds, List.drop_left]
  rw [e1, e2, le4_le4b _ (sumS_bd _), if_neg (by simp)]
theorem slipK_slip (k : Int) (ds r : List Int) (hd : ds.length ≤ 65535) : slipK (slipB k ds ++ r) = k := by
  unfold slipK
  rw [find_slip k ds r hd]
  simp [slipB, headB]
theorem slipD_slip (k : Int) (ds r : List Int) (hd : ds.length ≤ 65535) : slipD (slipB k ds ++ r) = ds := by
  unfold slipD
  rw [find_slip k ds r hd, if_pos rfl]
  have e : (slipB k ds ++ r).take (((ds.length : Int) + 7, (0 : Int)).1.toNat) = slipB k ds := by
    rw [show (((ds.length : Int) + 7, (0 : Int)).1.toNat) = ds.length + 7 by simp; omega, ← slipB_len k ds, List.take_left]
  rw [e]
  unfold dataOf
  rw [slipB_len, show ds.length + 7 - 4 = ds.length + 3 by omega]
  unfold slipB
  rw [← headB_len k ds, List.take_left]
  simp [headB]

/-- Where a slip is told, its bytes are those. -/
theorem dataOf_take (xs : List Int) (D : Nat) (hl : D + 7 ≤ xs.length) : dataOf (xs.take (D + 7)) = (xs.take (D + 3)).drop 3 := by
  unfold dataOf
  rw [List.length_take, show min (D + 7) xs.length - 4 = D + 3 by omega, List.take_take, show min (D + 3) (D + 7) = D + 3 by omega]

end Go.Proofs.YtilkbjohekhjcaaDoor
