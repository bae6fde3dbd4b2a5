/-
  When a pattern stands for a host, told by small letters. No program.
-/
import Derived.Test.YtfoacocnkdkdeaaGreatDoorHoMm
import Derived.Test.YtfoacocnkdkdeaaGreatDoorTxF0
namespace Go.Proofs.YtfoacocnkdkdeaaGreatDoor

/-- A text with small letters. -/
def smallL (l : List UInt8) : List UInt8 := l.map smallB

theorem small_nat (b : UInt8) : (smallB b).toNat = if 65 ≤ b.toNat ∧ b.toNat ≤ 90 then b.toNat + 32 else b.toNat := by
  have h := small_num b
  have hb := b.toNat_lt
  split at h <;> split <;> omega
theorem fold_eq (x y : UInt8) : Lib.foldEq x y = decide (smallB x = smallB y) := by
  unfold Lib.foldEq
  apply decide_eq_decide.2
  have e : smallB x = smallB y ↔ (smallB x).toNat = (smallB y).toNat := ⟨fun h => by rw [h], fun h => UInt8.toNat_inj.1 h⟩
  rw [e, small_nat, small_nat]
  split <;> split <;> omega
theorem fold_small : ∀ a b : List UInt8, Lib.equalFold a b = decide (smallL a = smallL b)
  | [], [] => rfl
  | [], c :: r => by simp [Lib.equalFold, smallL]
  | c :: r, [] => by simp [Lib.equalFold, smallL]
  | c :: r, d :: q => by
    have ih := fold_small r q
    rw [Bool.eq_iff_iff]
    simp only [Lib.equalFold, fold_eq, ih, smallL, List.map_cons, List.cons.injEq, Bool.and_eq_true, decide_eq_true_eq]
    exact ⟨fun h => ⟨h.1, of_decide_eq_true h.2⟩, fun h => ⟨h.1, decide_eq_true h.2⟩⟩
theorem small_dot (c : UInt8) : smallB c = 46 ↔ c = 46 := by
  have e : ∀ z : UInt8, z = 46 ↔ z.toNat = 46 := fun z => ⟨fun e => by rw [e]; rfl, fun e => UInt8.toNat_inj.1 (by rw [e]; rfl)⟩
  rw [e, e, small_nat]
  split <;> omega
theorem small_labs : ∀ (l acc : List UInt8), labsG (smallL acc) (smallL l) = (labsG acc l).map smallL
  | [], acc => by simp [labsG, smallL]
  | c :: r, acc => by
    show labsG (smallL acc) (smallB c :: smallL r) = _
    rw [labsG, labsG]
    by_cases hc : c = 46
    · rw [if_pos hc, if_pos ((small_dot c).2 hc), List.map_cons, ← small_labs r []]; rfl
    · rw [if_neg hc, if_neg (fun h => hc ((small_dot c).1 h)), ← small_labs r (acc ++ [c])]
      congr 1
      simp [smallL]
theorem labs_inj {a b : List UInt8} (h : labs a = labs b) : a = b := by rw [← join_labs a, ← join_labs b, h]
theorem small_len (l : List UInt8) : (smallL l).length = l.length := by simp [smallL]

theorem fold_tail {p s : List UInt8} (hw : wildL p = true) : Lib.equalFold (behL p) (behL s) = decide ((labs (smallL p)).length = (labs (smallL s)).length ∧ (labs (smallL p)).drop 1 = (labs (smallL s)).drop 1) := by
  obtain ⟨r, rfl, hr, hb, _, _⟩ := wild_split hw
  rw [hb, fold_small]
  apply decide_eq_decide.2
  have e1 : labs (smallL (42 :: 46 :: r)) = (labs (42 :: 46 :: r)).map smallL := small_labs _ []
  have e2 : labs (smallL s) = (labs s).map smallL := small_labs _ []
  have e3 : labs (42 :: 46 :: r) = [42] :: labs r := rfl
  have e4 := labs_cut s
  have e5 : (labs r).map smallL = labs (smallL r) := (small_labs r []).symm
  rw [e1, e2, e3]
  by_cases hc : (cutD 46 s).2.2 = true
  · rw [if_pos hc] at e4
    have e6 : labs (cutD 46 s).2.1 = labs (behL s) := rfl
    have e7 : (labs (behL s)).map smallL = labs (smallL (behL s)) := (small_labs _ []).symm
    rw [e4, e6, List.map_cons, List.map_cons, List.drop_succ_cons, List.drop_succ_cons, List.drop_zero, List.drop_zero, e5, e7, List.length_cons, List.length_cons]
    constructor
    · intro h; rw [h]; exact ⟨rfl, rfl⟩
    · intro h; exact labs_inj h.2
  · rw [if_neg hc] at e4
    have e6 : behL s = [] := cutD_no 46 s (by simpa using hc)
    rw [e4, e6, List.map_cons, e5]
    constructor
    · intro h
      exfalso
      have := congrArg List.length h
      rw [small_len, small_len] at this
      exact dns_ne hr (List.length_eq_zero_iff.1 this)
    · intro h
      exfalso
      have h1 := h.1
      simp at h1
      exact labsG_ne _ _ h1

end Go.Proofs.YtfoacocnkdkdeaaGreatDoor
