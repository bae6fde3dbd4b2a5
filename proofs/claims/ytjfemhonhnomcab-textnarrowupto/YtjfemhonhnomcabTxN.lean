/-
  A text of the kind 19 is one of 22, and that one of 12; what is joined of two rows of UTF-8 is one. No program but for the words.
-/
import Derived.Test.YtjfemhonhnomcabTxP4
namespace Go.Proofs.Ytjfemhonhnomcab

theorem ascii_valid : ∀ (f : Nat) (l : List UInt8), (∀ b ∈ l, b.toNat < 128) → validF f l = min f l.length
  | 0, l, _ => by simp [validF]
  | f + 1, [], _ => by simp [validF]
  | f + 1, x :: r, h => by
    have hx := h x (by simp)
    have hc : charL (x :: r) = 1 := by unfold charL; rw [if_pos (by simpa [bt] using hx)]
    rw [validF, hc, if_neg (by simp)]
    have ih := ascii_valid f r (fun b hb => h b (List.mem_cons_of_mem _ hb))
    simp only [List.drop_succ_cons, List.drop_zero, List.length_cons]
    rw [ih]
    omega

theorem may_22 (l : List UInt8) (h : mayL 19 l = true) : mayL 22 l = true := by
  unfold mayL at h ⊢
  by_cases h0 : 4096 < l.length
  · rw [if_pos h0] at h; cases h
  · rw [if_neg h0, if_neg (by decide), if_pos rfl] at h
    rw [if_neg h0, if_neg (by decide), if_neg (by decide), if_pos rfl]
    rw [List.all_eq_true] at h ⊢
    intro b hb
    have hp := h b hb
    rcases Nat.lt_or_ge b.toNat 128 with h2 | h2
    · exact decide_eq_true h2
    · rw [printN_high _ h2] at hp; cases hp

theorem may_12 (l : List UInt8) (h : mayL 22 l = true) : mayL 12 l = true := by
  unfold mayL at h ⊢
  by_cases h0 : 4096 < l.length
  · rw [if_pos h0] at h; cases h
  · rw [if_neg h0, if_neg (by decide), if_neg (by decide), if_pos rfl] at h
    rw [if_neg h0, if_pos rfl]
    refine decide_eq_true ?_
    unfold validL
    rw [ascii_valid]
    · exact Nat.min_self _
    · intro b hb
      exact of_decide_eq_true (List.all_eq_true.1 h b hb)

theorem valid_of_12 (l : List UInt8) (h : mayL 12 l = true) : validL l = l.length := by
  unfold mayL at h
  by_cases h0 : 4096 < l.length
  · rw [if_pos h0] at h; cases h
  · rw [if_neg h0, if_pos rfl] at h
    exact of_decide_eq_true h

theorem kind_ok (l : List UInt8) (h : (kindL l).2 = 0) : mayL (kindL l).1 l = true ∧ validL l = l.length := by
  unfold kindL at h ⊢
  by_cases h1 : mayL 19 l = true
  · rw [if_pos h1]
    exact ⟨h1, valid_of_12 l (may_12 l (may_22 l h1))⟩
  · rw [if_neg h1] at h ⊢
    by_cases h2 : mayL 12 l = true
    · rw [if_pos h2]
      exact ⟨h2, valid_of_12 l h2⟩
    · rw [if_neg h2] at h
      exact absurd h (by decide)

theorem bt_same (l l' : List UInt8) (c k : Nat) (h : l'.take c = l.take c) (hk : k < c) : bt l' k = bt l k := by
  unfold bt
  have h1 : (l'.take c)[k]? = (l.take c)[k]? := by rw [h]
  rw [List.getElem?_take_of_lt hk, List.getElem?_take_of_lt hk] at h1
  rw [List.getD_eq_getElem?_getD, List.getD_eq_getElem?_getD, h1]

theorem ct_same (l l' : List UInt8) (c k : Nat) (h : l'.take c = l.take c) (hk : k < c) : ct l' k = ct l k := by
  have h1 := congrArg List.length h
  rw [List.length_take, List.length_take] at h1
  unfold ct
  rw [bt_same l l' c k h hk]
  congr 1
  exact decide_eq_decide.2 (by omega)

/-- A character hangs on its own bytes alone. -/
theorem charL_same (l l' : List UInt8) (hc : charL l ≠ 0) (h : l'.take (charL l) = l.take (charL l)) : charL l' = charL l := by
  have h0 := bt_same l l' _ 0 h (by omega)
  generalize hcc : charL l = c at *
  unfold charL at hcc
  split at hcc
  · rename_i g
    subst hcc
    unfold charL
    rw [h0, if_pos g]
  · rename_i g
    split at hcc
    · rename_i g1
      split at hcc
      · rename_i g2
        subst hcc
        have b1 := bt_same l l' _ 1 h (by omega)
        have c1 := ct_same l l' _ 1 h (by omega)
        unfold charL
        rw [h0, b1, c1, if_neg g, if_pos g1, if_pos g2]
      · exact absurd hcc.symm hc
    · rename_i g1
      split at hcc
      · rename_i g3
        split at hcc
        · rename_i g2
          subst hcc
          have b1 := bt_same l l' _ 1 h (by omega)
          have c1 := ct_same l l' _ 1 h (by omega)
          have b2 := bt_same l l' _ 2 h (by omega)
          have c2 := ct_same l l' _ 2 h (by omega)
          unfold charL
          rw [h0, b1, c1, b2, c2, if_neg g, if_neg g1, if_pos g3, if_pos g2]
        · exact absurd hcc.symm hc
      · rename_i g3
        split at hcc
        · rename_i g4
          split at hcc
          · rename_i g2
            subst hcc
            have b1 := bt_same l l' _ 1 h (by omega)
            have c1 := ct_same l l' _ 1 h (by omega)
            have b2 := bt_same l l' _ 2 h (by omega)
            have c2 := ct_same l l' _ 2 h (by omega)
            have b3 := bt_same l l' _ 3 h (by omega)
            have c3 := ct_same l l' _ 3 h (by omega)
            unfold charL
            rw [h0, b1, c1, b2, c2, b3, c3, if_neg g, if_neg g1, if_neg g3, if_pos g4, if_pos g2]
          · exact absurd hcc.symm hc
        · exact absurd hcc.symm hc

theorem valid_cat (b : List UInt8) : ∀ (f : Nat) (l : List UInt8), l.length ≤ f → validL (l.take (validL l) ++ b) = validL l + validL b
  | 0, l, hf => by
    have hl : l.length = 0 := by omega
    rw [validL_stop l (.inl hl)]
    simp
  | f + 1, l, hf => by
    by_cases hs : l.length = 0 ∨ charL l = 0
    · rw [validL_stop l hs]
      simp
    · have h0 : 0 < l.length := by omega
      have hc : charL l ≠ 0 := by omega
      have hle := charL_le l h0
      have ih := valid_cat b f (l.drop (charL l)) (by rw [List.length_drop]; omega)
      rw [validL_step l h0 hc]
      have hm := validL_le (l.drop (charL l))
      rw [List.length_drop] at hm
      generalize hM : validL (l.drop (charL l)) = m at ih hm ⊢
      have e1 : l.take (charL l + m) ++ b = l.take (charL l) ++ ((l.drop (charL l)).take m ++ b) := by rw [List.take_add, List.append_assoc]
      rw [e1]
      have hx : (l.take (charL l) ++ ((l.drop (charL l)).take m ++ b)).take (charL l) = l.take (charL l) := by
        rw [List.take_append_of_le_length (by rw [List.length_take]; omega), List.take_take, Nat.min_self]
      have hcx := charL_same l _ hc hx
      have hlx : 0 < (l.take (charL l) ++ ((l.drop (charL l)).take m ++ b)).length := by rw [List.length_append, List.length_take]; omega
      rw [validL_step _ hlx (by rw [hcx]; exact hc), hcx]
      have hd : (l.take (charL l) ++ ((l.drop (charL l)).take m ++ b)).drop (charL l) = (l.drop (charL l)).take m ++ b := by
        rw [List.drop_append_of_le_length (by rw [List.length_take]; omega), List.drop_eq_nil_of_le (by rw [List.length_take]; omega), List.nil_append]
      rw [hd, ih]
      omega

theorem valid_join (l b : List UInt8) : validL (l.take (validL l) ++ b) = validL l + validL b := valid_cat b l.length l (Nat.le_refl _)

theorem valid_head (l : List UInt8) : validL (l.take (validL l)) = validL l := by
  have h := valid_join l []
  rw [List.append_nil] at h
  rw [h]
  rfl

end Go.Proofs.Ytjfemhonhnomcab
