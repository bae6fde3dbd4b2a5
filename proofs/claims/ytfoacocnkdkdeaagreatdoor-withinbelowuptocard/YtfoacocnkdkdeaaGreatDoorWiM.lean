/-
  A host's name below another one, on lists of bytes. No program.
-/
import Derived.Lib.Case
import Derived.Test.YtfoacocnkdkdeaaGreatDoorHoMs
namespace Go.Proofs.YtfoacocnkdkdeaaGreatDoor

theorem lower_small (b : UInt8) : Lib.lowerB b = smallB b := by
  apply UInt8.toNat_inj.1
  rw [small_nat]
  have hb := b.toNat_lt
  have hi := Lib.isUpperB_int b
  unfold Lib.lowerB
  rw [hi]
  by_cases h : 65 ≤ b.toNat ∧ b.toNat ≤ 90
  · rw [if_pos h, if_pos (by simp; omega), UInt8.toNat_add]
    simp; omega
  · rw [if_neg h, if_neg (by simp; omega)]
theorem lower_smallL (l : List UInt8) : Lib.toLowerA l = smallL l := by
  unfold Lib.toLowerA smallL
  exact List.map_congr_left fun b _ => lower_small b

/-- Is a below b? -/
def belB (a b : List UInt8) : Bool := dnsL a && (dnsL b && Lib.hasSuffix (smallL (46 :: a)) (smallL (46 :: b)))

theorem suf_iff (a b : List UInt8) : Lib.hasSuffix a b = true ↔ b <:+ a := by unfold Lib.hasSuffix; exact List.isSuffixOf_iff_suffix
theorem bel_iff (a b : List UInt8) : belB a b = true ↔ dnsL a = true ∧ dnsL b = true ∧ smallL (46 :: b) <:+ smallL (46 :: a) := by
  unfold belB
  rw [Bool.and_eq_true, Bool.and_eq_true, suf_iff]
theorem bel_self (a : List UInt8) : belB a a = dnsL a := by
  rw [Bool.eq_iff_iff, bel_iff]
  exact ⟨fun h => h.1, fun h => ⟨h, h, List.suffix_refl _⟩⟩
theorem bel_down {a b c : List UInt8} (h1 : belB a b = true) (h2 : belB b c = true) : belB a c = true := by
  rw [bel_iff] at *
  exact ⟨h1.1, h2.2.1, h2.2.2.trans h1.2.2⟩
theorem suf_both {a b : List UInt8} (h1 : a <:+ b) (h2 : b <:+ a) : a = b := h1.eq_of_length (Nat.le_antisymm h1.length_le h2.length_le)
theorem bel_both (a b : List UInt8) : (belB a b && belB b a) = (matchL a b && dnsL a) := by
  rw [Bool.eq_iff_iff, Bool.and_eq_true, Bool.and_eq_true, bel_iff, bel_iff]
  unfold matchL
  rw [Bool.and_eq_true]
  constructor
  · rintro ⟨⟨ha, hb, h1⟩, _, _, h2⟩
    refine ⟨⟨hb, ?_⟩, ha⟩
    rw [if_pos ha, fold_small, decide_eq_true_eq]
    have := suf_both h2 h1
    exact (List.cons.inj this).2
  · rintro ⟨⟨hb, hm⟩, ha⟩
    rw [if_pos ha, fold_small, decide_eq_true_eq] at hm
    have e : smallL (46 :: a) = smallL (46 :: b) := congrArg (smallB 46 :: ·) hm
    exact ⟨⟨ha, hb, by rw [e]; exact List.suffix_refl _⟩, hb, ha, by rw [e]; exact List.suffix_refl _⟩

/-- Label by label, from the last one on. -/
theorem labsG_app : ∀ (t acc b : List UInt8), labsG acc (t ++ 46 :: b) = labsG acc t ++ labs b
  | [], acc, b => by
    show labsG acc (46 :: b) = [acc] ++ labs b
    rw [labsG, if_pos rfl]
    rfl
  | c :: r, acc, b => by
    show labsG acc (c :: (r ++ 46 :: b)) = _
    rw [labsG, labsG]
    by_cases hc : c = 46
    · rw [if_pos hc, if_pos hc, labsG_app r, List.cons_append]
    · rw [if_neg hc, if_neg hc, labsG_app r]
theorem foldl_dot : ∀ (ws : List (List UInt8)) (x : List UInt8), ws.foldl (fun a v => a ++ [46] ++ v) x = x ++ ws.foldl (fun a v => a ++ [46] ++ v) []
  | ws, x => by
    have := foldl_acc ws x []
    rwa [List.append_nil] at this
theorem foldl_join : ∀ (ws : List (List UInt8)), ws ≠ [] → ws.foldl (fun a v => a ++ [46] ++ v) [] = 46 :: joinL ws
  | [], h => absurd rfl h
  | u :: ws, _ => by
    show ws.foldl (fun a v => a ++ [46] ++ v) ([] ++ [46] ++ u) = 46 :: ws.foldl (fun a v => a ++ [46] ++ v) u
    rw [foldl_acc ws ([] ++ [46]) u]
    rfl
theorem joinL_app (x y : List (List UInt8)) (hx : x ≠ []) (hy : y ≠ []) : joinL (x ++ y) = joinL x ++ 46 :: joinL y := by
  cases x with
  | nil => exact absurd rfl hx
  | cons u r =>
    show (r ++ y).foldl (fun a v => a ++ [46] ++ v) u = r.foldl (fun a v => a ++ [46] ++ v) u ++ 46 :: joinL y
    rw [List.foldl_append, foldl_dot y, foldl_join y hy]
theorem suf_labs (a b : List UInt8) : 46 :: b <:+ 46 :: a ↔ labs b <:+ labs a := by
  have e : labs (46 :: a) = [] :: labs a := by unfold labs; rw [labsG, if_pos rfl]
  constructor
  · rintro ⟨t, ht⟩
    have h := labsG_app t [] b
    rw [ht] at h
    have h2 : [] :: labs a = labs t ++ labs b := by rw [← e]; exact h
    cases hl : labs t with
    | nil => exact absurd hl (labsG_ne _ _)
    | cons u ws =>
      rw [hl, List.cons_append] at h2
      exact ⟨ws, (List.cons.inj h2).2.symm⟩
  · rintro ⟨t, ht⟩
    have h1 : joinL (([] :: t) ++ labs b) = joinL ([] :: t) ++ 46 :: joinL (labs b) := joinL_app _ _ (by simp) (labsG_ne _ _)
    rw [join_labs, List.cons_append, ht, ← e, join_labs] at h1
    exact ⟨_, h1.symm⟩
theorem bel_labs (a b : List UInt8) : belB a b = (dnsL a && (dnsL b && (labs (smallL b)).isSuffixOf (labs (smallL a)))) := by
  unfold belB
  congr 2
  rw [Bool.eq_iff_iff, suf_iff, List.isSuffixOf_iff_suffix, ← suf_labs]
  rfl

end Go.Proofs.YtfoacocnkdkdeaaGreatDoor
