/-
  The lesser of two times has the lesser text. Plain.
-/
import Derived.Test.YtnpimjfdidbdfabDoorCivN
namespace Go.Proofs.YtnpimjfdidbdfabDoor
open Go.RowKit

def lexI : List Int → List Int → Bool
  | _, [] => false
  | [], _ :: _ => true
  | a :: x, b :: y => decide (a < b) || (decide (a = b) && lexI x y)

theorem byte_lt {a b : Int} (ha : 0 ≤ a ∧ a < 256) (hb : 0 ≤ b ∧ b < 256) : decide (UInt8.ofNat a.toNat < UInt8.ofNat b.toNat) = decide (a < b) := by
  have : (UInt8.ofNat a.toNat < UInt8.ofNat b.toNat) ↔ a < b := by
    rw [UInt8.lt_iff_toNat_lt, UInt8.toNat_ofNat', UInt8.toNat_ofNat']
    omega
  simp [this]

theorem byte_eq {a b : Int} (ha : 0 ≤ a ∧ a < 256) (hb : 0 ≤ b ∧ b < 256) : (UInt8.ofNat a.toNat == UInt8.ofNat b.toNat) = decide (a = b) := by
  have : (UInt8.ofNat a.toNat = UInt8.ofNat b.toNat) ↔ a = b := by
    rw [← UInt8.toNat_inj, UInt8.toNat_ofNat', UInt8.toNat_ofNat']
    omega
  rw [Bool.eq_iff_iff]
  simp [this]

theorem bytesLess_lex : ∀ (xs ys : List Int), (∀ x ∈ xs, 0 ≤ x ∧ x < 256) → (∀ x ∈ ys, 0 ≤ x ∧ x < 256) →
    Op.bytesLess (xs.map fun n => UInt8.ofNat n.toNat) (ys.map fun n => UInt8.ofNat n.toNat) = lexI xs ys
  | [], [], _, _ => rfl
  | _ :: _, [], _, _ => rfl
  | [], _ :: _, _, _ => rfl
  | a :: x, b :: y, hx, hy => by
    have h1 := hx a (List.mem_cons_self ..)
    have h2 := hy b (List.mem_cons_self ..)
    have ih := bytesLess_lex x y (fun z hz => hx z (List.mem_cons_of_mem _ hz)) (fun z hz => hy z (List.mem_cons_of_mem _ hz))
    rw [List.map_cons, List.map_cons, Op.bytesLess, lexI, ih, byte_lt h1 h2, byte_eq h1 h2]

theorem lexI_app (p r r' : List Int) : lexI (p ++ r) (p ++ r') = lexI r r' := by
  induction p with
  | nil => rfl
  | cons a p ih => simp [lexI, ih]

theorem lexI_irr : ∀ x, lexI x x = false
  | [] => rfl
  | a :: x => by simp [lexI, lexI_irr x]

theorem lexI_asym : ∀ x y, lexI x y = true → lexI y x = false
  | x, [], h => by cases x <;> simp [lexI] at h
  | [], _ :: _, _ => rfl
  | a :: x, b :: y, h => by
    simp only [lexI, Bool.or_eq_true, Bool.and_eq_true, decide_eq_true_eq] at h
    rcases h with h | ⟨h, k⟩
    · have h1 : ¬ b < a := by omega
      have h2 : ¬ b = a := by omega
      simp [lexI, h1, h2]
    · subst h
      simp [lexI, lexI_asym x y k]

theorem lexd (r r' : List Int) (a b : Nat) : ∀ k : Nat, a % 10 ^ k < b % 10 ^ k → lexI (dg k a ++ r) (dg k b ++ r') = true
  | 0, h => by simp [Nat.mod_one] at h
  | k + 1, h => by
    have ih := lexd r r' a b k
    rw [Nat.pow_succ, Nat.mod_mul, Nat.mod_mul] at h
    have hP : 0 < 10 ^ k := Nat.pow_pos (by omega)
    have ha := Nat.mod_lt a hP
    have hb := Nat.mod_lt b hP
    simp only [dg, List.cons_append, lexI, Bool.or_eq_true, Bool.and_eq_true, decide_eq_true_eq]
    generalize a / 10 ^ k % 10 = da at *
    generalize b / 10 ^ k % 10 = db at *
    generalize 10 ^ k = P at *
    rcases Nat.lt_trichotomy da db with h1 | h1 | h1
    · exact .inl (by omega)
    · subst h1
      exact .inr ⟨rfl, ih (by omega)⟩
    · have h2 : P * (db + 1) ≤ P * da := Nat.mul_le_mul_left _ h1
      rw [Nat.mul_add] at h2
      omega

theorem lex4 (a b : Nat) (h : a < b) (hb : b ≤ 9999) (r r' : List Int) : lexI (dg 4 a ++ r) (dg 4 b ++ r') = true :=
  lexd r r' a b 4 (by rw [Nat.mod_eq_of_lt (by omega), Nat.mod_eq_of_lt (by omega)]; exact h)

theorem lex2 (a b : Nat) (h : a < b) (hb : b ≤ 99) (r r' : List Int) : lexI (dg 2 a ++ r) (dg 2 b ++ r') = true :=
  lexd r r' a b 2 (by rw [Nat.mod_eq_of_lt (by omega), Nat.mod_eq_of_lt (by omega)]; exact h)

theorem txtV_flat (y m q h i s : Nat) : txtV y m q h i s = dg 4 y ++ ([45] ++ (dg 2 m ++ ([45] ++ (dg 2 q ++ ([32] ++ (dg 2 h ++ ([58] ++ (dg 2 i ++ ([58] ++ (dg 2 s ++ [])))))))))) := by
  simp [txtV]

theorem day_sec (t : Int) : t = dayOf t * 86400 + secOf t - 631152000 := by unfold dayOf secOf; omega

theorem txt_less {t u : Int} {y m q h i s y' m' q' h' i' s' : Nat} (c : CivN t y m q h i s) (d : CivN u y' m' q' h' i' s') (lt : t < u) : lexI (txtV y m q h i s) (txtV y' m' q' h' i' s') = true := by
  have bc := c.bd
  have bd := d.bd
  have e1 := day_sec t
  have e2 := day_sec u
  have r1 := sec_in t
  have r2 := sec_in u
  have k1 := c.h_
  have k2 := c.i_
  have k3 := c.s_
  have k4 := d.h_
  have k5 := d.i_
  have k6 := d.s_
  have hd : dayOf t ≤ dayOf u := by omega
  rw [txtV_flat, txtV_flat]
  have A := c.at_
  have B := d.at_
  have eA := A.eq
  have eB := B.eq
  by_cases hy : y < y'
  · exact lex4 y y' hy (by omega) _ _
  have hyy : y = y' := by
    have h1 := A.year
    have h2 := B.year
    by_cases e : y' < y
    · have := dby_mono ((y' : Int) + 1) y (by omega)
      omega
    · omega
  subst hyy
  rw [lexI_app, lexI_app]
  by_cases hm : m < m'
  · exact lex2 m m' hm (by omega) _ _
  have hmm : m = m' := by
    by_cases e : m' < m
    · have h1 := cum_mono y ((m' : Int) + 1) m (by omega) (by omega) (by omega)
      have h2 := cum_succ y m' B.m1 B.m2
      have h3 := B.q2
      have h4 := A.q1
      omega
    · omega
  subst hmm
  rw [lexI_app, lexI_app]
  by_cases hq : q < q'
  · exact lex2 q q' hq (by omega) _ _
  have hqq : q = q' := by omega
  subst hqq
  rw [lexI_app, lexI_app]
  by_cases hh : h < h'
  · exact lex2 h h' hh (by omega) _ _
  have hhh : h = h' := by omega
  subst hhh
  rw [lexI_app, lexI_app]
  by_cases hi : i < i'
  · exact lex2 i i' hi (by omega) _ _
  have hii : i = i' := by omega
  subst hii
  rw [lexI_app, lexI_app]
  exact lex2 s s' (by omega) (by omega) _ _

theorem txtV_byte (y m q h i s : Nat) : ∀ x ∈ txtV y m q h i s, 0 ≤ x ∧ x < 256 := by
  intro x hx
  rw [txtV_flat] at hx
  simp only [List.mem_append, List.mem_cons, List.not_mem_nil, or_false] at hx
  rcases hx with hx | rfl | hx | rfl | hx | rfl | hx | rfl | hx | rfl | hx
  all_goals first | exact dg_bytes _ _ _ hx | omega

theorem txtV_len (y m q h i s : Nat) : (txtV y m q h i s).length = 19 := by
  simp [txtV, dg_len]

theorem str_list (xs : List Int) : (strOfNums xs).toList = xs.map fun n => UInt8.ofNat n.toNat := by
  rw [ByteArray.toList_eq, strOfNums_data]

/-- Two times' texts, compared. -/
theorem txt_cmp {t u : Int} {y m q h i s y' m' q' h' i' s' : Nat} (c : CivN t y m q h i s) (d : CivN u y' m' q' h' i' s') :
    Op.bytesLess (strOfNums (txtV y m q h i s)).toList (strOfNums (txtV y' m' q' h' i' s')).toList = decide (t < u)
      ∧ ((strOfNums (txtV y m q h i s)).toList == (strOfNums (txtV y' m' q' h' i' s')).toList) = (t == u) := by
  rw [str_list, str_list, bytesLess_lex _ _ (fun x hx => txtV_byte _ _ _ _ _ _ x hx) (fun x hx => txtV_byte _ _ _ _ _ _ x hx)]
  have key : ∀ xs ys : List Int, (∀ x ∈ xs, 0 ≤ x ∧ x < 256) → (∀ x ∈ ys, 0 ≤ x ∧ x < 256) → lexI xs ys = true → ((xs.map fun n => UInt8.ofNat n.toNat) == (ys.map fun n => UInt8.ofNat n.toNat)) = false := by
    intro xs ys hx hy hl
    apply beq_eq_false_iff_ne.2
    intro he
    have h1 := bytesLess_lex xs ys hx hy
    have h2 := bytesLess_lex xs xs hx hx
    rw [← he, h2, lexI_irr, hl] at h1
    cases h1
  rcases Int.lt_trichotomy t u with lt | eq | gt
  · have h1 := txt_less c d lt
    have h2 := key _ _ (fun x hx => txtV_byte _ _ _ _ _ _ x hx) (fun x hx => txtV_byte _ _ _ _ _ _ x hx) h1
    have h3 : (t == u) = false := beq_eq_false_iff_ne.2 (by omega)
    rw [h1, h2, h3]
    simp [lt]
  · subst eq
    obtain ⟨e1, e2, e3⟩ := c.at_.one d.at_
    have k1 := c.h_
    have k2 := c.i_
    have k3 := c.s_
    have k4 := d.h_
    have k5 := d.i_
    have k6 := d.s_
    obtain rfl : y = y' := by omega
    obtain rfl : m = m' := by omega
    obtain rfl : q = q' := by omega
    obtain rfl : h = h' := by omega
    obtain rfl : i = i' := by omega
    obtain rfl : s = s' := by omega
    rw [lexI_irr]
    simp
  · have h1 := txt_less d c gt
    have h2 := key _ _ (fun x hx => txtV_byte _ _ _ _ _ _ x hx) (fun x hx => txtV_byte _ _ _ _ _ _ x hx) h1
    have h3 : (t == u) = false := beq_eq_false_iff_ne.2 (by omega)
    rw [lexI_asym _ _ h1, h3, Bool.beq_comm, h2]
    have h4 : ¬ t < u := by omega
    simp [h4]

end Go.Proofs.YtnpimjfdidbdfabDoor
