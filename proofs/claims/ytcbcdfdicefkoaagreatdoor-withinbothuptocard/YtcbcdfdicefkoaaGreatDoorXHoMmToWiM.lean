/-
  When a pattern stands for a host, on lists of bytes. No program.
  host.Match: does a pattern stand for a host?
  When a pattern stands for a host, told by small letters. No program.
  A host's name below another one, on lists of bytes. No program.
-/
import Derived.Lib.Fold
import Derived.Test.YtcbcdfdicefkoaaGreatDoorXHoMToHoB
import Derived.Test.YtcbcdfdicefkoaaGreatDoorXHoE
import Derived.Test.YtcbcdfdicefkoaaGreatDoorXTxW1ToTxF1
import Derived.Lib.Case
namespace Go.Proofs.YtcbcdfdicefkoaaGreatDoor

/-- What stands behind the first label and its dot. -/
def behL (l : List UInt8) : List UInt8 := (cutD 46 l).2.1
/-- Does a pattern stand for a host? -/
def matchL (p s : List UInt8) : Bool := dnsL s && (if dnsL p = true then Lib.equalFold p s else wildL p && Lib.equalFold (behL p) (behL s))

theorem labP_ascii (n k b : Nat) (h : labP n k b = true) : b < 128 := by
  unfold labP plN digN at h
  simp at h
  omega
theorem allP_mem (f : Nat → Nat → Bool) (Q : Nat → Prop) (hf : ∀ k b, f k b = true → Q b) : ∀ (l : List UInt8) (k : Nat), allP f k l = true → ∀ b ∈ l, Q b.toNat
  | [], _, _, b, h => by cases h
  | c :: r, k, hl, b, h => by
    rw [allP, Bool.and_eq_true] at hl
    rcases List.mem_cons.1 h with rfl | h
    · exact hf _ _ hl.1
    · exact allP_mem f Q hf r _ hl.2 b h
theorem labL_ascii (u : List UInt8) (h : labL u = true) : ∀ b ∈ u, b.toNat < 128 := by
  unfold labL at h
  rw [Bool.and_eq_true, Bool.and_eq_true] at h
  exact allP_mem _ (· < 128) (fun k b hb => labP_ascii _ k b hb) u 0 h.2.2
theorem labsG_bytes (Q : UInt8 → Prop) (h46 : Q 46) : ∀ (l acc : List UInt8), (∀ u ∈ labsG acc l, ∀ b ∈ u, Q b) → (∀ b ∈ acc, Q b) ∧ ∀ b ∈ l, Q b
  | [], acc, h => ⟨h acc (by simp [labsG]), fun b hb => by cases hb⟩
  | c :: r, acc, h => by
    rw [labsG] at h
    by_cases hc : c = 46
    · rw [if_pos hc] at h
      have ih := labsG_bytes Q h46 r [] (fun u hu => h u (List.mem_cons_of_mem _ hu))
      refine ⟨h acc (by simp), fun b hb => ?_⟩
      rcases List.mem_cons.1 hb with rfl | hb
      · rw [hc]; exact h46
      · exact ih.2 b hb
    · rw [if_neg hc] at h
      have ih := labsG_bytes Q h46 r (acc ++ [c]) h
      refine ⟨fun b hb => ih.1 b (by simp [hb]), fun b hb => ?_⟩
      rcases List.mem_cons.1 hb with rfl | hb
      · exact ih.1 b (by simp)
      · exact ih.2 b hb
theorem dns_labs {l : List UInt8} (h : dnsL l = true) : (labs l).all labL = true := by
  unfold dnsL at h
  rw [Bool.and_eq_true, dnsG_all, Bool.and_eq_true] at h
  exact h.2.1
theorem dns_ascii {l : List UInt8} (h : dnsL l = true) : ∀ b ∈ l, b.toNat < 128 :=
  (labsG_bytes (fun b => b.toNat < 128) (by decide) l [] (fun u hu b hb => labL_ascii u (List.all_eq_true.1 (dns_labs h) u hu) b hb)).2
theorem dns_ne {l : List UInt8} (h : dnsL l = true) : l ≠ [] := by rintro rfl; rw [dnsL_nil] at h; cases h
theorem cutD_mem (d : UInt8) : ∀ (l : List UInt8), (∀ b ∈ (cutD d l).1, b ∈ l) ∧ ∀ b ∈ (cutD d l).2.1, b ∈ l
  | [] => by simp [cutD]
  | c :: r => by
    have ih := cutD_mem d r
    rw [cutD]
    split
    · exact ⟨fun b h => (by cases h), fun b h => List.mem_cons_of_mem _ h⟩
    · refine ⟨fun b h => ?_, fun b h => List.mem_cons_of_mem _ (ih.2 b h)⟩
      rcases List.mem_cons.1 h with rfl | h
      · simp
      · exact List.mem_cons_of_mem _ (ih.1 b h)
theorem wild_split {l : List UInt8} (h : wildL l = true) : ∃ r, l = 42 :: 46 :: r ∧ dnsL r = true ∧ behL l = r ∧ 1 < (labs r).length ∧ l.length ≤ 253 := by
  match l, h with
  | a :: b :: r, h =>
    simp only [wildL, Bool.and_eq_true, decide_eq_true_eq] at h
    obtain ⟨⟨rfl, rfl⟩, h1, h2, h3⟩ := h
    refine ⟨r, rfl, h2, ?_, ?_, by simp; omega⟩
    · unfold behL; rw [cutD, if_neg (by decide), cutD, if_pos rfl]
    · have : decide (1 < (labsG [] r).length) = r.contains 46 := by
        have go : ∀ (l acc : List UInt8), decide (1 < (labsG acc l).length) = l.contains 46 := by
          intro l
          induction l with
          | nil => intro acc; simp [labsG]
          | cons c r ih =>
            intro acc
            rw [labsG, List.contains_cons]
            by_cases hc : c = 46
            · rw [if_pos hc, hc]
              have h1 : 0 < (labsG [] r).length := List.length_pos_iff.2 (labsG_ne _ _)
              simp; omega
            · have h2 : ((46 : UInt8) == c) = false := by simpa using fun e => hc e.symm
              rw [if_neg hc, ih, h2, Bool.false_or]
        exact go r []
      rw [h3] at this
      simpa [labs] using this
theorem beh_ascii {s : List UInt8} (h : dnsL s = true) : ∀ b ∈ behL s, b.toNat < 128 := fun b hb => dns_ascii h b ((cutD_mem 46 s).2 b hb)

/-- What is alike but for great and small letters has its dots at the same places. -/
theorem fold_dot {x y : UInt8} (h : Lib.foldEq x y = true) : x = 46 ↔ y = 46 := by
  unfold Lib.foldEq at h
  rw [decide_eq_true_eq] at h
  have e : ∀ z : UInt8, z = 46 ↔ z.toNat = 46 := fun z => ⟨fun e => by rw [e]; rfl, fun e => UInt8.toNat_inj.1 (by rw [e]; rfl)⟩
  rw [e x, e y]
  omega
theorem fold_labs : ∀ (a b x y : List UInt8), Lib.equalFold a b = true → (labsG x a).length = (labsG y b).length
  | [], [], x, y, _ => by simp [labsG]
  | [], c :: r, x, y, h => by simp [Lib.equalFold] at h
  | c :: r, [], x, y, h => by simp [Lib.equalFold] at h
  | c :: r, d :: q, x, y, h => by
    simp only [Lib.equalFold, Bool.and_eq_true] at h
    have hd := fold_dot h.1
    rw [labsG, labsG]
    by_cases hc : c = 46
    · rw [if_pos hc, if_pos (hd.1 hc), List.length_cons, List.length_cons, fold_labs r q [] [] h.2]
    · rw [if_neg hc, if_neg (fun e => hc (hd.2 e)), fold_labs r q _ _ h.2]
theorem fold_nil {a : List UInt8} (h : Lib.equalFold a [] = true) : a = [] := by cases a with | nil => rfl | cons c r => simp [Lib.equalFold] at h
theorem match_len {p s : List UInt8} (h : matchL p s = true) : dnsL s = true ∧ (dnsL p = true ∨ wildL p = true) ∧ (labs p).length = (labs s).length := by
  unfold matchL at h
  rw [Bool.and_eq_true] at h
  obtain ⟨h1, h2⟩ := h
  refine ⟨h1, ?_⟩
  split at h2
  · rename_i hp
    exact ⟨.inl hp, fold_labs _ _ _ _ h2⟩
  · rw [Bool.and_eq_true] at h2
    obtain ⟨hw, hf⟩ := h2
    refine ⟨.inr hw, ?_⟩
    obtain ⟨r, rfl, hr, hb, _, _⟩ := wild_split hw
    rw [hb] at hf
    have e1 : labs (42 :: 46 :: r) = [42] :: labs r := rfl
    have e2 := labs_cut s
    by_cases hd : (cutD 46 s).2.2 = true
    · rw [if_pos hd] at e2
      rw [e1, e2, List.length_cons, List.length_cons]
      have e3 : labs (cutD 46 s).2.1 = labs (behL s) := rfl
      rw [e3]
      exact congrArg (· + 1) (fold_labs r (behL s) [] [] hf)
    · have e3 : behL s = [] := cutD_no 46 s (by simpa using hd)
      rw [e3] at hf
      exact absurd (fold_nil hf) (dns_ne hr)
theorem match_more {p s : List UInt8} (h : matchL p s = true) : matchL p (120 :: 46 :: s) = false := by
  cases hq : matchL p (120 :: 46 :: s) with
  | false => rfl
  | true =>
    have h1 := (match_len h).2.2
    have h2 := (match_len hq).2.2
    have e1 : labs (120 :: 46 :: s) = [120] :: labs s := rfl
    rw [e1, List.length_cons] at h2
    omega
theorem match_less {p s : List UInt8} (h : matchL p s = true) (hd : 1 < (labs s).length) : matchL p (behL s) = false := by
  cases hq : matchL p (behL s) with
  | false => rfl
  | true =>
    have h1 := (match_len h).2.2
    have h2 := (match_len hq).2.2
    have e2 := labs_cut s
    by_cases hc : (cutD 46 s).2.2 = true
    · rw [if_pos hc] at e2
      have e3 : labs (cutD 46 s).2.1 = labs (behL s) := rfl
      rw [e2, e3, List.length_cons] at h1
      omega
    · rw [if_neg hc] at e2
      rw [e2] at hd
      simp at hd

/-- Labels, joined by dots again. -/
def joinL : List (List UInt8) → List UInt8
  | [] => []
  | u :: ws => ws.foldl (fun a v => a ++ [46] ++ v) u
theorem foldl_acc : ∀ (ws : List (List UInt8)) (x y : List UInt8), ws.foldl (fun a v => a ++ [46] ++ v) (x ++ y) = x ++ ws.foldl (fun a v => a ++ [46] ++ v) y
  | [], _, _ => rfl
  | u :: ws, x, y => by
    rw [List.foldl_cons, List.foldl_cons, ← foldl_acc ws x (y ++ [46] ++ u)]
    congr 1
    simp
theorem join_labsG : ∀ (l acc : List UInt8), joinL (labsG acc l) = acc ++ l
  | [], acc => by simp [labsG, joinL]
  | c :: r, acc => by
    rw [labsG]
    by_cases hc : c = 46
    · rw [if_pos hc]
      have ih := join_labsG r []
      obtain ⟨u, ws, hu⟩ : ∃ u ws, labsG [] r = u :: ws := by
        cases h : labsG [] r with
        | nil => exact absurd h (labsG_ne _ _)
        | cons u ws => exact ⟨u, ws, rfl⟩
      rw [hu] at ih ⊢
      show (u :: ws).foldl (fun a v => a ++ [46] ++ v) acc = acc ++ c :: r
      rw [List.foldl_cons, foldl_acc ws (acc ++ [46]) u]
      have e : ws.foldl (fun a v => a ++ [46] ++ v) u = r := ih
      rw [e, hc]
      simp
    · rw [if_neg hc, join_labsG r]; simp
theorem join_labs (l : List UInt8) : joinL (labs l) = l := join_labsG l []
theorem join_beh (l : List UInt8) : joinL ((labs l).drop 1) = behL l := by
  rw [labs_cut]
  by_cases hc : (cutD 46 l).2.2 = true
  · rw [if_pos hc]; exact join_labs _
  · rw [if_neg hc]
    exact (cutD_no 46 l (by simpa using hc)).symm

end Go.Proofs.YtcbcdfdicefkoaaGreatDoor

namespace Go.Proofs.YtcbcdfdicefkoaaGreatDoor
open Go.RowKit Go.Shelf Go.IntWalk

set_option maxRecDepth 100000 in
set_option maxHeartbeats 1000000 in
theorem behind_any (s : List UInt8) (hs : s.length ≤ 1048576) (m : Int) (w : World) (hm : ML w m) :
    Calls Tryz.prog 52 #[.string (tx s)] w fun e w' => e = .returned (.string (tx (behL s))) ∧ Below w.heap.size w w' := by
  have hC := hide (cut_any s 46 hs m w hm)
  have hb : Hid ((cutD 46 s).2.1 = behL s) := rfl
  generalize (cutD 46 s).1 = a at hC
  generalize (cutD 46 s).2.1 = b at hC hb
  generalize (cutD 46 s).2.2 = c at hC
  go_enter Tryz.func52, Tryz.ntmps52
  go_wp2_with (go_at_call 83; refine (hC.out).mono ?_; rintro e w1 ⟨rfl, B1⟩)
  go_ret
  exact ⟨by rw [← hb.out]; rfl, B1⟩

theorem foldH_any (a b : List UInt8) (ha : a.length ≤ 1048576) (xa : ∀ x ∈ a, x.toNat < 128) (xb : ∀ x ∈ b, x.toNat < 128) (w : World) :
    Calls Tryz.prog 51 #[.string (tx a), .string (tx b)] w fun e w' => e = .returned (.bool (Lib.equalFold a b)) ∧ w' = w :=
  Tryz.strings_EqualFold (tx a) (tx b) w (by rw [tx_size]; omega) (fun _ x hx => xa x (List.mem_of_getElem? hx)) (fun _ x hx => xb x (List.mem_of_getElem? hx))

set_option maxRecDepth 100000 in
set_option maxHeartbeats 2000000 in
theorem match_any (p s : List UInt8) (hp : p.length ≤ 1048576) (hs : s.length ≤ 1048576) (m : Int) (w : World) (hm : ML w m) :
    Calls Tryz.prog 23 #[.string (tx p), .string (tx s)] w fun e w' => e = .returned (.bool (matchL p s)) ∧ Below w.heap.size w w' := by
  have hM : Hid (matchL p s = (dnsL s && (if dnsL p = true then Lib.equalFold p s else wildL p && Lib.equalFold (behL p) (behL s)))) := rfl
  have d1 := hide (fun W h => dns_any s hs m W h)
  have d2 := hide (fun W h => dns_any p hp m W h)
  have d3 := hide (fun W h => wild_any p hp m W h)
  have d4 := hide (fun W h => behind_any p hp m W h)
  have d5 := hide (fun W h => behind_any s hs m W h)
  have bl : (behL p).length ≤ 1048576 := Nat.le_trans (cutD_rest 46 p).1 hp
  have f1 : Hid (dnsL s = true → dnsL p = true → ∀ W, Calls Tryz.prog 51 #[.string (tx p), .string (tx s)] W fun e w' => e = .returned (.bool (Lib.equalFold p s)) ∧ w' = W) := fun h1 h2 W => foldH_any p s hp (dns_ascii h2) (dns_ascii h1) W
  have f2 : Hid (dnsL s = true → wildL p = true → ∀ W, Calls Tryz.prog 51 #[.string (tx (behL p)), .string (tx (behL s))] W fun e w' => e = .returned (.bool (Lib.equalFold (behL p) (behL s))) ∧ w' = W) := fun h1 h2 W => by
    obtain ⟨r, rfl, hr, hb, _, _⟩ := wild_split h2
    exact foldH_any _ _ bl (by rw [hb]; exact dns_ascii hr) (beh_ascii h1) W
  have HM := hide hm
  have hne : Hid (wildL p = true → tx p ≠ tx s → True) := fun _ _ => trivial
  clear hm bl hne
  generalize Lib.equalFold p s = x1 at *
  generalize Lib.equalFold (behL p) (behL s) = x2 at *
  generalize dnsL s = b1 at *
  generalize dnsL p = b2 at *
  generalize wildL p = b3 at *
  generalize matchL p s = R at *
  generalize behL p = pb at *
  generalize behL s = sb at *
  generalize tx s = S at *
  generalize tx p = Q at *
  generalize tx sb = SB at *
  generalize tx pb = PB at *
  cases b1 with
  | false =>
    have hR : Hid (R = false) := hM.out
    go_enter Tryz.func23, Tryz.ntmps23
    go_wp2_with (go_at_call 25; refine (d1.out _ HM.out).mono ?_; rintro e w1 ⟨rfl, B1⟩)
    go_ret
    exact ⟨by rw [hR.out]; rfl, B1⟩
  | true =>
    cases b2 with
    | true =>
      have hR : Hid (R = x1) := hM.out
      have F := hide (f1.out rfl rfl)
      go_enter Tryz.func23, Tryz.ntmps23
      go_wp2_with (first | (go_at_call 25; refine (d2.out _ hm1.out).mono ?_; rintro e w2 ⟨rfl, B2⟩) | (go_at_call 25; refine (d1.out _ HM.out).mono ?_; rintro e w1 ⟨rfl, B1⟩; have hm1 := hide (HM.out.below B1)) | (go_at_call 51; refine (F.out _).mono ?_; rintro e w3 ⟨rfl, h3⟩; subst h3))
      go_ret
      exact ⟨by rw [hR.out]; rfl, B1.trans (B2.mono B1.size)⟩
    | false =>
      cases b3 with
      | false =>
        have hR : Hid (R = false) := hM.out
        go_enter Tryz.func23, Tryz.ntmps23
        go_wp2_with (first | (go_at_call 25; refine (d2.out _ hm1.out).mono ?_; rintro e w2 ⟨rfl, B2⟩; have hm2 := hide (hm1.out.below B2)) | (go_at_call 25; refine (d1.out _ HM.out).mono ?_; rintro e w1 ⟨rfl, B1⟩; have hm1 := hide (HM.out.below B1)) | (go_at_call 21; refine (d3.out _ hm2.out).mono ?_; rintro e w3 ⟨rfl, B3⟩))
        go_ret
        exact ⟨by rw [hR.out]; rfl, (B1.trans (B2.mono B1.size)).trans (B3.mono (Nat.le_trans B1.size B2.size))⟩
      | true =>
        have hR : Hid (R = x2) := hM.out
        have F := hide (f2.out rfl rfl)
        go_enter Tryz.func23, Tryz.ntmps23
        go_wp2_with (first | (go_at_call 25; refine (d2.out _ hm1.out).mono ?_; rintro e w2 ⟨rfl, B2⟩; have hm2 := hide (hm1.out.below B2)) | (go_at_call 25; refine (d1.out _ HM.out).mono ?_; rintro e w1 ⟨rfl, B1⟩; have hm1 := hide (HM.out.below B1)) | (go_at_call 21; refine (d3.out _ hm2.out).mono ?_; rintro e w3 ⟨rfl, B3⟩; have hm3 := hide (hm2.out.below B3)) | (go_at_call 52; refine (d5.out _ hm4.out).mono ?_; rintro e w5 ⟨rfl, B5⟩) | (go_at_call 52; refine (d4.out _ hm3.out).mono ?_; rintro e w4 ⟨rfl, B4⟩; have hm4 := hide (hm3.out.below B4)) | (go_at_call 51; refine (F.out _).mono ?_; rintro e w6 ⟨rfl, h6⟩; subst h6))
        go_ret
        exact ⟨by rw [hR.out]; rfl, ((((B1.trans (B2.mono B1.size)).trans (B3.mono (Nat.le_trans B1.size B2.size))).trans (B4.mono (Nat.le_trans (Nat.le_trans B1.size B2.size) B3.size))).trans (B5.mono (Nat.le_trans (Nat.le_trans (Nat.le_trans B1.size B2.size) B3.size) B4.size)))⟩

end Go.Proofs.YtcbcdfdicefkoaaGreatDoor

namespace Go.Proofs.YtcbcdfdicefkoaaGreatDoor

/-- A text with small letters. -/
def smallL (l : List UInt8) : List UInt8 := l.map smallB

theorem small_nat (b : UInt8) : (smallB b).toNat = if 65 ≤ b.toNat ∧ b.toNat ≤ 90 then b.toNat + 32 else b.toNat := by
  have h := small_num b
  have hb := b.toNat_lt
  split at h <;> split <;> omega
theorem fold_eq (x y : UInt8) : Lib.foldEq x y = decide (smallB x = smallB y) := by
  unfold Lib.foldEq
  apply decide_eq_decide.2
  have e : smallB x = smallB y ↔ (smallB x).toNat = (smallB y).toNat := ⟨fun h => by rw [h], fun h => UInt8.toNat_inj.1 h⟩
  rw [e, small_nat, small_nat]
  split <;> split <;> omega
theorem fold_small : ∀ a b : List UInt8, Lib.equalFold a b = decide (smallL a = smallL b)
  | [], [] => rfl
  | [], c :: r => by simp [Lib.equalFold, smallL]
  | c :: r, [] => by simp [Lib.equalFold, smallL]
  | c :: r, d :: q => by
    have ih := fold_small r q
    rw [Bool.eq_iff_iff]
    simp only [Lib.equalFold, fold_eq, ih, smallL, List.map_cons, List.cons.injEq, Bool.and_eq_true, decide_eq_true_eq]
    exact ⟨fun h => ⟨h.1, of_decide_eq_true h.2⟩, fun h => ⟨h.1, decide_eq_true h.2⟩⟩
theorem small_dot (c : UInt8) : smallB c = 46 ↔ c = 46 := by
  have e : ∀ z : UInt8, z = 46 ↔ z.toNat = 46 := fun z => ⟨fun e => by rw [e]; rfl, fun e => UInt8.toNat_inj.1 (by rw [e]; rfl)⟩
  rw [e, e, small_nat]
  split <;> omega
theorem small_labs : ∀ (l acc : List UInt8), labsG (smallL acc) (smallL l) = (labsG acc l).map smallL
  | [], acc => by simp [labsG, smallL]
  | c :: r, acc => by
    show labsG (smallL acc) (smallB c :: smallL r) = _
    rw [labsG, labsG]
    by_cases hc : c = 46
    · rw [if_pos hc, if_pos ((small_dot c).2 hc), List.map_cons, ← small_labs r []]; rfl
    · rw [if_neg hc, if_neg (fun h => hc ((small_dot c).1 h)), ← small_labs r (acc ++ [c])]
      congr 1
      simp [smallL]
theorem labs_inj {a b : List UInt8} (h : labs a = labs b) : a = b := by rw [← join_labs a, ← join_labs b, h]
theorem smallH_len (l : List UInt8) : (smallL l).length = l.length := by simp [smallL]

theorem fold_tail {p s : List UInt8} (hw : wildL p = true) : Lib.equalFold (behL p) (behL s) = decide ((labs (smallL p)).length = (labs (smallL s)).length ∧ (labs (smallL p)).drop 1 = (labs (smallL s)).drop 1) := by
  obtain ⟨r, rfl, hr, hb, _, _⟩ := wild_split hw
  rw [hb, fold_small]
  apply decide_eq_decide.2
  have e1 : labs (smallL (42 :: 46 :: r)) = (labs (42 :: 46 :: r)).map smallL := small_labs _ []
  have e2 : labs (smallL s) = (labs s).map smallL := small_labs _ []
  have e3 : labs (42 :: 46 :: r) = [42] :: labs r := rfl
  have e4 := labs_cut s
  have e5 : (labs r).map smallL = labs (smallL r) := (small_labs r []).symm
  rw [e1, e2, e3]
  by_cases hc : (cutD 46 s).2.2 = true
  · rw [if_pos hc] at e4
    have e6 : labs (cutD 46 s).2.1 = labs (behL s) := rfl
    have e7 : (labs (behL s)).map smallL = labs (smallL (behL s)) := (small_labs _ []).symm
    rw [e4, e6, List.map_cons, List.map_cons, List.drop_succ_cons, List.drop_succ_cons, List.drop_zero, List.drop_zero, e5, e7, List.length_cons, List.length_cons]
    constructor
    · intro h; rw [h]; exact ⟨rfl, rfl⟩
    · intro h; exact labs_inj h.2
  · rw [if_neg hc] at e4
    have e6 : behL s = [] := cutD_no 46 s (by simpa using hc)
    rw [e4, e6, List.map_cons, e5]
    constructor
    · intro h
      exfalso
      have := congrArg List.length h
      rw [smallH_len, smallH_len] at this
      exact dns_ne hr (List.length_eq_zero_iff.1 this)
    · intro h
      exfalso
      have h1 := h.1
      simp at h1
      exact labsG_ne _ _ h1

end Go.Proofs.YtcbcdfdicefkoaaGreatDoor

namespace Go.Proofs.YtcbcdfdicefkoaaGreatDoor

theorem lower_small (b : UInt8) : Lib.lowerB b = smallB b := by
  apply UInt8.toNat_inj.1
  rw [small_nat]
  have hb := b.toNat_lt
  have hi := Lib.isUpperB_int b
  unfold Lib.lowerB
  rw [hi]
  by_cases h : 65 ≤ b.toNat ∧ b.toNat ≤ 90
  · rw [if_pos h, if_pos (by simp; omega), UInt8.toNat_add]
    simp; omega
  · rw [if_neg h, if_neg (by simp; omega)]
theorem lower_smallL (l : List UInt8) : Lib.toLowerA l = smallL l := by
  unfold Lib.toLowerA smallL
  exact List.map_congr_left fun b _ => lower_small b

/-- Is a below b? -/
def belB (a b : List UInt8) : Bool := dnsL a && (dnsL b && Lib.hasSuffix (smallL (46 :: a)) (smallL (46 :: b)))

theorem suf_iff (a b : List UInt8) : Lib.hasSuffix a b = true ↔ b <:+ a := by unfold Lib.hasSuffix; exact List.isSuffixOf_iff_suffix
theorem bel_iff (a b : List UInt8) : belB a b = true ↔ dnsL a = true ∧ dnsL b = true ∧ smallL (46 :: b) <:+ smallL (46 :: a) := by
  unfold belB
  rw [Bool.and_eq_true, Bool.and_eq_true, suf_iff]
theorem bel_self (a : List UInt8) : belB a a = dnsL a := by
  rw [Bool.eq_iff_iff, bel_iff]
  exact ⟨fun h => h.1, fun h => ⟨h, h, List.suffix_refl _⟩⟩
theorem bel_down {a b c : List UInt8} (h1 : belB a b = true) (h2 : belB b c = true) : belB a c = true := by
  rw [bel_iff] at *
  exact ⟨h1.1, h2.2.1, h2.2.2.trans h1.2.2⟩
theorem suf_both {a b : List UInt8} (h1 : a <:+ b) (h2 : b <:+ a) : a = b := h1.eq_of_length (Nat.le_antisymm h1.length_le h2.length_le)
theorem bel_both (a b : List UInt8) : (belB a b && belB b a) = (matchL a b && dnsL a) := by
  rw [Bool.eq_iff_iff, Bool.and_eq_true, Bool.and_eq_true, bel_iff, bel_iff]
  unfold matchL
  rw [Bool.and_eq_true]
  constructor
  · rintro ⟨⟨ha, hb, h1⟩, _, _, h2⟩
    refine ⟨⟨hb, ?_⟩, ha⟩
    rw [if_pos ha, fold_small, decide_eq_true_eq]
    have := suf_both h2 h1
    exact (List.cons.inj this).2
  · rintro ⟨⟨hb, hm⟩, ha⟩
    rw [if_pos ha, fold_small, decide_eq_true_eq] at hm
    have e : smallL (46 :: a) = smallL (46 :: b) := congrArg (smallB 46 :: ·) hm
    exact ⟨⟨ha, hb, by rw [e]; exact List.suffix_refl _⟩, hb, ha, by rw [e]; exact List.suffix_refl _⟩

/-- Label by label, from the last one on. -/
theorem labsG_app : ∀ (t acc b : List UInt8), labsG acc (t ++ 46 :: b) = labsG acc t ++ labs b
  | [], acc, b => by
    show labsG acc (46 :: b) = [acc] ++ labs b
    rw [labsG, if_pos rfl]
    rfl
  | c :: r, acc, b => by
    show labsG acc (c :: (r ++ 46 :: b)) = _
    rw [labsG, labsG]
    by_cases hc : c = 46
    · rw [if_pos hc, if_pos hc, labsG_app r, List.cons_append]
    · rw [if_neg hc, if_neg hc, labsG_app r]
theorem foldl_dot : ∀ (ws : List (List UInt8)) (x : List UInt8), ws.foldl (fun a v => a ++ [46] ++ v) x = x ++ ws.foldl (fun a v => a ++ [46] ++ v) []
  | ws, x => by
    have := foldl_acc ws x []
    rwa [List.append_nil] at this
theorem foldl_join : ∀ (ws : List (List UInt8)), ws ≠ [] → ws.foldl (fun a v => a ++ [46] ++ v) [] = 46 :: joinL ws
  | [], h => absurd rfl h
  | u :: ws, _ => by
    show ws.foldl (fun a v => a ++ [46] ++ v) ([] ++ [46] ++ u) = 46 :: ws.foldl (fun a v => a ++ [46] ++ v) u
    rw [foldl_acc ws ([] ++ [46]) u]
    rfl
theorem joinL_app (x y : List (List UInt8)) (hx : x ≠ []) (hy : y ≠ []) : joinL (x ++ y) = joinL x ++ 46 :: joinL y := by
  cases x with
  | nil => exact absurd rfl hx
  | cons u r =>
    show (r ++ y).foldl (fun a v => a ++ [46] ++ v) u = r.foldl (fun a v => a ++ [46] ++ v) u ++ 46 :: joinL y
    rw [List.foldl_append, foldl_dot y, foldl_join y hy]
theorem suf_labs (a b : List UInt8) : 46 :: b <:+ 46 :: a ↔ labs b <:+ labs a := by
  have e : labs (46 :: a) = [] :: labs a := by unfold labs; rw [labsG, if_pos rfl]
  constructor
  · rintro ⟨t, ht⟩
    have h := labsG_app t [] b
    rw [ht] at h
    have h2 : [] :: labs a = labs t ++ labs b := by rw [← e]; exact h
    cases hl : labs t with
    | nil => exact absurd hl (labsG_ne _ _)
    | cons u ws =>
      rw [hl, List.cons_append] at h2
      exact ⟨ws, (List.cons.inj h2).2.symm⟩
  · rintro ⟨t, ht⟩
    have h1 : joinL (([] :: t) ++ labs b) = joinL ([] :: t) ++ 46 :: joinL (labs b) := joinL_app _ _ (by simp) (labsG_ne _ _)
    rw [join_labs, List.cons_append, ht, ← e, join_labs] at h1
    exact ⟨_, h1.symm⟩
theorem bel_labs (a b : List UInt8) : belB a b = (dnsL a && (dnsL b && (labs (smallL b)).isSuffixOf (labs (smallL a)))) := by
  unfold belB
  congr 2
  rw [Bool.eq_iff_iff, suf_iff, List.isSuffixOf_iff_suffix, ← suf_labs]
  rfl

end Go.Proofs.YtcbcdfdicefkoaaGreatDoor
