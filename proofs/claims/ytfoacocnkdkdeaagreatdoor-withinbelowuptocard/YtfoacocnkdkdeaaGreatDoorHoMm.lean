/-
  When a pattern stands for a host, on lists of bytes. No program.
-/
import Derived.Lib.Fold
import Derived.Test.YtfoacocnkdkdeaaGreatDoorHoM
namespace Go.Proofs.YtfoacocnkdkdeaaGreatDoor

/-- What stands behind the first label and its dot. -/
def behL (l : List UInt8) : List UInt8 := (cutD 46 l).2.1
/-- Does a pattern stand for a host? -/
def matchL (p s : List UInt8) : Bool := dnsL s && (if dnsL p = true then Lib.equalFold p s else wildL p && Lib.equalFold (behL p) (behL s))

theorem labP_ascii (n k b : Nat) (h : labP n k b = true) : b < 128 := by
  unfold labP plN digN at h
  simp at h
  omega
theorem allP_mem (f : Nat → Nat → Bool) (Q : Nat → Prop) (hf : ∀ k b, f k b = true → Q b) : ∀ (l : List UInt8) (k : Nat), allP f k l = true → ∀ b ∈ l, Q b.toNat
  | [], _, _, b, h => by cases h
  | c :: r, k, hl, b, h => by
    rw [allP, Bool.and_eq_true] at hl
    rcases List.mem_cons.1 h with rfl | h
    · exact hf _ _ hl.1
    · exact allP_mem f Q hf r _ hl.2 b h
theorem labL_ascii (u : List UInt8) (h : labL u = true) : ∀ b ∈ u, b.toNat < 128 := by
  unfold labL at h
  rw [Bool.and_eq_true, Bool.and_eq_true] at h
  exact allP_mem _ (· < 128) (fun k b hb => labP_ascii _ k b hb) u 0 h.2.2
theorem labsG_bytes (Q : UInt8 → Prop) (h46 : Q 46) : ∀ (l acc : List UInt8), (∀ u ∈ labsG acc l, ∀ b ∈ u, Q b) → (∀ b ∈ acc, Q b) ∧ ∀ b ∈ l, Q b
  | [], acc, h => ⟨h acc (by simp [labsG]), fun b hb => by cases hb⟩
  | c :: r, acc, h => by
    rw [labsG] at h
    by_cases hc : c = 46
    · rw [if_pos hc] at h
      have ih := labsG_bytes Q h46 r [] (fun u hu => h u (List.mem_cons_of_mem _ hu))
      refine ⟨h acc (by simp), fun b hb => ?_⟩
      rcases List.mem_cons.1 hb with rfl | hb
      · rw [hc]; exact h46
      · exact ih.2 b hb
    · rw [if_neg hc] at h
      have ih := labsG_bytes Q h46 r (acc ++ [c]) h
      refine ⟨fun b hb => ih.1 b (by simp [hb]), fun b hb => ?_⟩
      rcases List.mem_cons.1 hb with rfl | hb
      · exact ih.1 b (by simp)
      · exact ih.2 b hb
theorem dns_labs {l : List UInt8} (h : dnsL l = true) : (labs l).all labL = true := by
  unfold dnsL at h
  rw [Bool.and_eq_true, dnsG_all, Bool.and_eq_true] at h
  exact h.2.1
theorem dns_ascii {l : List UInt8} (h : dnsL l = true) : ∀ b ∈ l, b.toNat < 128 :=
  (labsG_bytes (fun b => b.toNat < 128) (by decide) l [] (fun u hu b hb => labL_ascii u (List.all_eq_true.1 (dns_labs h) u hu) b hb)).2
theorem dns_ne {l : List UInt8} (h : dnsL l = true) : l ≠ [] := by rintro rfl; rw [dnsL_nil] at h; cases h
theorem cutD_mem (d : UInt8) : ∀ (l : List UInt8), (∀ b ∈ (cutD d l).1, b ∈ l) ∧ ∀ b ∈ (cutD d l).2.1, b ∈ l
  | [] => by simp [cutD]
  | c :: r => by
    have ih := cutD_mem d r
    rw [cutD]
    split
    · exact ⟨fun b h => (by cases h), fun b h => List.mem_cons_of_mem _ h⟩
    · refine ⟨fun b h => ?_, fun b h => List.mem_cons_of_mem _ (ih.2 b h)⟩
      rcases List.mem_cons.1 h with rfl | h
      · simp
      · exact List.mem_cons_of_mem _ (ih.1 b h)
theorem wild_split {l : List UInt8} (h : wildL l = true) : ∃ r, l = 42 :: 46 :: r ∧ dnsL r = true ∧ behL l = r ∧ 1 < (labs r).length ∧ l.length ≤ 253 := by
  match l, h with
  | a :: b :: r, h =>
    simp only [wildL, Bool.and_eq_true, decide_eq_true_eq] at h
    obtain ⟨⟨rfl, rfl⟩, h1, h2, h3⟩ := h
    refine ⟨r, rfl, h2, ?_, ?_, by simp; omega⟩
    · unfold behL; rw [cutD, if_neg (by decide), cutD, if_pos rfl]
    · have : decide (1 < (labsG [] r).length) = r.contains 46 := by
        have go : ∀ (l acc : List UInt8), decide (1 < (labsG acc l).length) = l.contains 46 := by
          intro l
          induction l with
          | nil => intro acc; simp [labsG]
          | cons c r ih =>
            intro acc
            rw [labsG, List.contains_cons]
            by_cases hc : c = 46
            · rw [if_pos hc, hc]
              have h1 : 0 < (labsG [] r).length := List.length_pos_iff.2 (labsG_ne _ _)
              simp; omega
            · have h2 : ((46 : UInt8) == c) = false := by simpa using fun e => hc e.symm
              rw [if_neg hc, ih, h2, Bool.false_or]
        exact go r []
      rw [h3] at this
      simpa [labs] using this
theorem beh_ascii {s : List UInt8} (h : dnsL s = true) : ∀ b ∈ behL s, b.toNat < 128 := fun b hb => dns_ascii h b ((cutD_mem 46 s).2 b hb)

/-- What is alike but for great and small letters has its dots at the same places. -/
theorem fold_dot {x y : UInt8} (h : Lib.foldEq x y = true) : x = 46 ↔ y = 46 := by
  unfold Lib.foldEq at h
  rw [decide_eq_true_eq] at h
  have e : ∀ z : UInt8, z = 46 ↔ z.toNat = 46 := fun z => ⟨fun e => by rw [e]; rfl, fun e => UInt8.toNat_inj.1 (by rw [e]; rfl)⟩
  rw [e x, e y]
  omega
theorem fold_labs : ∀ (a b x y : List UInt8), Lib.equalFold a b = true → (labsG x a).length = (labsG y b).length
  | [], [], x, y, _ => by simp [labsG]
  | [], c :: r, x, y, h => by simp [Lib.equalFold] at h
  | c :: r, [], x, y, h => by simp [Lib.equalFold] at h
  | c :: r, d :: q, x, y, h => by
    simp only [Lib.equalFold, Bool.and_eq_true] at h
    have hd := fold_dot h.1
    rw [labsG, labsG]
    by_cases hc : c = 46
    · rw [if_pos hc, if_pos (hd.1 hc), List.length_cons, List.length_cons, fold_labs r q [] [] h.2]
    · rw [if_neg hc, if_neg (fun e => hc (hd.2 e)), fold_labs r q _ _ h.2]
theorem fold_nil {a : List UInt8} (h : Lib.equalFold a [] = true) : a = [] := by cases a with | nil => rfl | cons c r => simp [Lib.equalFold] at h
theorem match_len {p s : List UInt8} (h : matchL p s = true) : dnsL s = true ∧ (dnsL p = true ∨ wildL p = true) ∧ (labs p).length = (labs s).length := by
  unfold matchL at h
  rw [Bool.and_eq_true] at h
  obtain ⟨h1, h2⟩ := h
  refine ⟨h1, ?_⟩
  split at h2
  · rename_i hp
    exact ⟨.inl hp, fold_labs _ _ _ _ h2⟩
  · rw [Bool.and_eq_true] at h2
    obtain ⟨hw, hf⟩ := h2
    refine ⟨.inr hw, ?_⟩
    obtain ⟨r, rfl, hr, hb, _, _⟩ := wild_split hw
    rw [hb] at hf
    have e1 : labs (42 :: 46 :: r) = [42] :: labs r := rfl
    have e2 := labs_cut s
    by_cases hd : (cutD 46 s).2.2 = true
    · rw [if_pos hd] at e2
      rw [e1, e2, List.length_cons, List.length_cons]
      have e3 : labs (cutD 46 s).2.1 = labs (behL s) := rfl
      rw [e3]
      exact congrArg (· + 1) (fold_labs r (behL s) [] [] hf)
    · have e3 : behL s = [] := cutD_no 46 s (by simpa using hd)
      rw [e3] at hf
      exact absurd (fold_nil hf) (dns_ne hr)
theorem match_more {p s : List UInt8} (h : matchL p s = true) : matchL p (120 :: 46 :: s) = false := by
  cases hq : matchL p (120 :: 46 :: s) with
  | false => rfl
  | true =>
    have h1 := (match_len h).2.2
    have h2 := (match_len hq).2.2
    have e1 : labs (120 :: 46 :: s) = [120] :: labs s := rfl
    rw [e1, List.length_cons] at h2
    omega
theorem match_less {p s : List UInt8} (h : matchL p s = true) (hd : 1 < (labs s).length) : matchL p (behL s) = false := by
  cases hq : matchL p (behL s) with
  | false => rfl
  | true =>
    have h1 := (match_len h).2.2
    have h2 := (match_len hq).2.2
    have e2 := labs_cut s
    by_cases hc : (cutD 46 s).2.2 = true
    · rw [if_pos hc] at e2
      have e3 : labs (cutD 46 s).2.1 = labs (behL s) := rfl
      rw [e2, e3, List.length_cons] at h1
      omega
    · rw [if_neg hc] at e2
      rw [e2] at hd
      simp at hd

/-- Labels, joined by dots again. -/
def joinL : List (List UInt8) → List UInt8
  | [] => []
  | u :: ws => ws.foldl (fun a v => a ++ [46] ++ v) u
theorem foldl_acc : ∀ (ws : List (List UInt8)) (x y : List UInt8), ws.foldl (fun a v => a ++ [46] ++ v) (x ++ y) = x ++ ws.foldl (fun a v => a ++ [46] ++ v) y
  | [], _, _ => rfl
  | u :: ws, x, y => by
    rw [List.foldl_cons, List.foldl_cons, ← foldl_acc ws x (y ++ [46] ++ u)]
    congr 1
    simp
theorem join_labsG : ∀ (l acc : List UInt8), joinL (labsG acc l) = acc ++ l
  | [], acc => by simp [labsG, joinL]
  | c :: r, acc => by
    rw [labsG]
    by_cases hc : c = 46
    · rw [if_pos hc]
      have ih := join_labsG r []
      obtain ⟨u, ws, hu⟩ : ∃ u ws, labsG [] r = u :: ws := by
        cases h : labsG [] r with
        | nil => exact absurd h (labsG_ne _ _)
        | cons u ws => exact ⟨u, ws, rfl⟩
      rw [hu] at ih ⊢
      show (u :: ws).foldl (fun a v => a ++ [46] ++ v) acc = acc ++ c :: r
      rw [List.foldl_cons, foldl_acc ws (acc ++ [46]) u]
      have e : ws.foldl (fun a v => a ++ [46] ++ v) u = r := ih
      rw [e, hc]
      simp
    · rw [if_neg hc, join_labsG r]; simp
theorem join_labs (l : List UInt8) : joinL (labs l) = l := join_labsG l []
theorem join_beh (l : List UInt8) : joinL ((labs l).drop 1) = behL l := by
  rw [labs_cut]
  by_cases hc : (cutD 46 l).2.2 = true
  · rw [if_pos hc]; exact join_labs _
  · rw [if_neg hc]
    exact (cutD_no 46 l (by simpa using hc)).symm

end Go.Proofs.YtfoacocnkdkdeaaGreatDoor
