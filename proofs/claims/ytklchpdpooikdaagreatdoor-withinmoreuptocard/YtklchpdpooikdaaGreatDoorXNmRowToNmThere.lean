/-
  Rows of attributes; how many at their beginnings are the same; whether one begins with the other. Contracts of name.shared, Begins, Same.
  A name that may be: chancerylaw12.there answers true.
-/
import Derived.Test.YtklchpdpooikdaaGreatDoorXOEncToTxL2
import Derived.RegionTactic
import Derived.Deep.RegionHeld3
namespace Go.Proofs.YtklchpdpooikdaaGreatDoor
open Go.RowKit Go.IntWalk Go.Shelf

/-- The slice at 'ao', of n attributes, holds these types and values. -/
structure Ats (w : World) (ao : Option Addr) (n cap : Nat) (xs : List (Int × ByteArray)) : Prop where
  hl : xs.length = n
  hcap : n ≤ cap
  hmax : cap ≤ maxLen
  hsz : ∀ x ∈ xs, x.2.size + 1 ≤ 140737488355328
  hrd : 0 < n → ∃ b off, ao = some ⟨b, off, none⟩ ∧ ∀ i, i < n → w.cell? ⟨b, off + i * 2, none⟩ = some (.int .i64 (xs.getD i (0, ByteArray.empty)).1) ∧ w.cell? ⟨b, off + i * 2 + 1, none⟩ = some (.string (xs.getD i (0, ByteArray.empty)).2)

theorem Ats.below {w w' : World} {ao : Option Addr} {n cap : Nat} {xs : List (Int × ByteArray)} (h : Ats w ao n cap xs) (hb : Below w.heap.size w w') : Ats w' ao n cap xs := by
  refine ⟨h.hl, h.hcap, h.hmax, h.hsz, fun hn => ?_⟩
  obtain ⟨b, off, he, hc⟩ := h.hrd hn
  refine ⟨b, off, he, fun i hi => ?_⟩
  obtain ⟨h1, h2⟩ := hc i hi
  have hlt := lt_of_cell h1
  exact ⟨(hb.cell (p := ⟨b, off + i * 2, none⟩) hlt).trans h1, (hb.cell (p := ⟨b, off + i * 2 + 1, none⟩) hlt).trans h2⟩

theorem Ats.heap {w w' : World} {ao : Option Addr} {n cap : Nat} {xs : List (Int × ByteArray)} (h : Ats w ao n cap xs) (hh : w'.heap = w.heap) : Ats w' ao n cap xs := by
  refine ⟨h.hl, h.hcap, h.hmax, h.hsz, fun hn => ?_⟩
  obtain ⟨b, off, he, hc⟩ := h.hrd hn
  refine ⟨b, off, he, fun i hi => ?_⟩
  have e : ∀ p, w'.cell? p = w.cell? p := fun p => by unfold World.cell?; rw [hh]
  rw [e, e]
  exact hc i hi

theorem Ats.take {w : World} {ao : Option Addr} {n cap : Nat} {xs : List (Int × ByteArray)} (h : Ats w ao n cap xs) {k : Nat} (hk : k ≤ n) : Ats w ao k cap (xs.take k) := by
  have hl := h.hl
  refine ⟨by simp; omega, by have := h.hcap; omega, h.hmax, fun x hx => h.hsz x (List.mem_of_mem_take hx), fun hn => ?_⟩
  obtain ⟨b, off, he, hc⟩ := h.hrd (by omega)
  refine ⟨b, off, he, fun i hi => ?_⟩
  have e : (xs.take k).getD i (0, ByteArray.empty) = xs.getD i (0, ByteArray.empty) := by simp [List.getD, hi]
  rw [e]
  exact hc i (by omega)

/-- What two attributes that are the same have in common. -/
def key (x : Int × ByteArray) : Int × ByteArray := (x.1, foldS x.2)
/-- Whether a begins with b. -/
def bg (A B : List (Int × ByteArray)) : Bool := decide (A.take B.length = B)
theorem bg_self (A : List (Int × ByteArray)) : bg A A = true := by unfold bg; simp
theorem bg_take (A : List (Int × ByteArray)) (n : Nat) : bg A (A.take n) = true := by
  unfold bg
  rw [List.length_take, decide_eq_true_eq]
  by_cases h : n ≤ A.length
  · rw [Nat.min_eq_left h]
  · rw [Nat.min_eq_right (by omega), List.take_of_length_le (Nat.le_refl _), List.take_of_length_le (by omega)]
theorem bg_back (A : List (Int × ByteArray)) (n : Nat) (h : n ≤ A.length) : bg (A.take n) A = decide (n = A.length) := by
  unfold bg
  rw [List.take_take, Nat.min_eq_right h]
  congr 1
  refine propext ⟨fun e => ?_, fun e => ?_⟩
  · have := congrArg List.length e
    simp at this
    omega
  · rw [e, List.take_of_length_le (Nat.le_refl _)]
theorem bg_trans {A B C : List (Int × ByteArray)} (h1 : bg A B = true) (h2 : bg B C = true) : bg A C = true := by
  unfold bg at *
  rw [decide_eq_true_eq] at *
  have hl : C.length ≤ B.length := by have := congrArg List.length h2; simp at this; omega
  rw [← h1, List.take_take, Nat.min_eq_left hl] at h2
  exact h2
theorem bg_both (A B : List (Int × ByteArray)) : decide (A = B) = (bg A B && bg B A) := by
  by_cases h : A = B
  · subst h
    rw [bg_self]
    simp
  · rw [decide_eq_false h]
    symm
    rw [Bool.and_eq_false_iff]
    by_cases h1 : bg A B = true
    · right
      rw [Bool.eq_false_iff]
      intro h2
      unfold bg at h1 h2
      rw [decide_eq_true_eq] at h1 h2
      have l1 := congrArg List.length h1
      have l2 := congrArg List.length h2
      simp at l1 l2
      have : A.length = B.length := by omega
      rw [← this, List.take_of_length_le (Nat.le_refl _)] at h1
      exact h h1
    · left
      simpa using h1
theorem sm_len (A B : List (Int × ByteArray)) (h : A.length = B.length) : bg A B = decide (A = B) := by
  unfold bg
  rw [← h, List.take_of_length_le (Nat.le_refl _)]

/-- How many at the beginning are the same. -/
def shN : List (Int × ByteArray) → List (Int × ByteArray) → Nat
  | x :: A, y :: B => if x = y then shN A B + 1 else 0
  | _, _ => 0
theorem shN_at : ∀ (A B : List (Int × ByteArray)) (i : Nat), i ≤ A.length → i ≤ B.length → (∀ j, j < i → A[j]? = B[j]?) → (i = A.length ∨ i = B.length ∨ A[i]? ≠ B[i]?) → shN A B = i
  | [], B, i, h1, _, _, _ => by simp at h1; subst h1; cases B <;> rfl
  | x :: A, [], i, _, h2, _, _ => by simp at h2; subst h2; rfl
  | x :: A, y :: B, 0, _, _, _, h4 => by
    rw [shN, if_neg]
    rintro rfl
    simp at h4
  | x :: A, y :: B, i + 1, h1, h2, h3, h4 => by
    have e := h3 0 (by omega)
    simp at e
    rw [shN, if_pos e, shN_at A B i (by simpa using h1) (by simpa using h2) (fun j hj => by simpa using h3 (j + 1) (by omega)) (by simpa using h4)]
theorem shN_le : ∀ (A B : List (Int × ByteArray)), shN A B ≤ B.length
  | [], B => by cases B <;> simp [shN]
  | x :: A, [] => by simp [shN]
  | x :: A, y :: B => by
    rw [shN]
    have := shN_le A B
    split <;> simp <;> omega
theorem shN_bg : ∀ (A B : List (Int × ByteArray)), decide (shN A B = B.length) = bg A B
  | [], [] => rfl
  | x :: A, [] => rfl
  | [], y :: B => by unfold bg; simp [shN]
  | x :: A, y :: B => by
    have h := shN_bg A B
    unfold bg at *
    rw [shN]
    by_cases e : x = y
    · subst e
      rw [if_pos rfl]
      simpa using h
    · rw [if_neg e]
      simp [e]

theorem getD_mem {xs : List (Int × ByteArray)} {i : Nat} (h : i < xs.length) : xs.getD i (0, ByteArray.empty) ∈ xs := by
  rw [List.getD, List.getElem?_eq_getElem h]
  exact List.getElem_mem _
theorem key_at {xs : List (Int × ByteArray)} {i : Nat} (h : i < xs.length) : (xs.map key)[i]? = some (key (xs.getD i (0, ByteArray.empty))) := by
  simp [h, List.getD]

theorem nbelow (W : World) (o : Obj) : Below W.heap.size W (W.alloc o) := (Below.refl _ _).alloc (Nat.le_refl _) _

set_option maxRecDepth 100000 in
set_option maxHeartbeats 2000000 in
theorem shared_any (aa : Option Addr) (na ca : Nat) (xs : List (Int × ByteArray)) (ab : Option Addr) (nb cb : Nat) (ys : List (Int × ByteArray)) (w : World) (hA : Ats w aa na ca xs) (hB : Ats w ab nb cb ys) :
    Calls Tryz.prog 140 #[.slice aa na ca, .slice ab nb cb] w fun e w' => e = .returned (.int .i64 (shN (xs.map key) (ys.map key))) ∧ Below w.heap.size w w' := by
  have HA := hide hA
  have HB := hide hB
  have hS := hide same_any
  have a1 := hA.hcap
  have a2 := hA.hmax
  have b1 := hB.hcap
  have b2 := hB.hmax
  unfold maxLen at a2 b2
  have hla := hide hA.hl
  have hlb := hide hB.hl
  obtain ⟨k, hk⟩ : ∃ k, k = min na nb := ⟨_, rfl⟩
  have g2 : min (na : Int) (nb : Int) = (k : Int) := by omega
  have hk1 : k ≤ na := by omega
  have hk2 : k ≤ nb := by omega
  have hk3 : Hid (k = na ∨ k = nb) := by unfold Hid; omega
  have na1 : (na : Int) ≤ 9223372036854775807 := by omega
  have nb1 : (nb : Int) ≤ 9223372036854775807 := by omega
  clear hk hA hB a1 a2 b1 b2
  go_enter Tryz.func140, Tryz.ntmps140
  go_wp2
  go_step3
  go_wp2
  go_step3
  go_wp2
  go_loopw [5] (fun v wr => ∃ i : Nat, i ≤ k ∧ v = .int .i64 i ∧ Below w.heap.size w wr ∧ Hid (∀ j, j < i → (xs.map key)[j]? = (ys.map key)[j]?)) (fun v _ => k - (intOf v).toNat)
  case atStart => exact ⟨0, Nat.zero_le _, rfl, Below.refl _ _, fun j hj => absurd hj (by omega)⟩
  case round =>
    obtain ⟨i, hi, rfl, hQ, hE⟩ := hrel
    by_cases hik : i < k
    · obtain ⟨b, off, rfl, hc⟩ := (HA.out.below hQ).hrd (by omega)
      obtain ⟨b', off', rfl, hc'⟩ := (HB.out.below hQ).hrd (by omega)
      obtain ⟨c0, c1⟩ := hc i (by omega)
      obtain ⟨d0, d1⟩ := hc' i (by omega)
      have kx := hide (key_at (xs := xs) (i := i) (by rw [hla.out]; omega))
      have ky := hide (key_at (xs := ys) (i := i) (by rw [hlb.out]; omega))
      have zx : Hid ((xs.getD i (0, ByteArray.empty)).2.size + 1 ≤ 140737488355328) := HA.out.hsz _ (getD_mem (by have := hla.out; omega))
      have zy : Hid ((ys.getD i (0, ByteArray.empty)).2.size + 1 ≤ 140737488355328) := HB.out.hsz _ (getD_mem (by have := hlb.out; omega))
      generalize xs.getD i (0, ByteArray.empty) = X at c0 c1 kx zx
      generalize ys.getD i (0, ByteArray.empty) = Y at d0 d1 ky zy
      obtain ⟨tx, sx⟩ := X
      obtain ⟨ty, sy⟩ := Y
      simp only [] at c0 c1 d0 d1
      clear hc hc'
      have q1 : b < wr.heap.size := lt_of_cell c0
      have q2 : b' < wr.heap.size := lt_of_cell d0
      have jk : (i : Int) < (k : Int) := by omega
      have ja : (i : Int) < (na : Int) := by omega
      have jb : (i : Int) < (nb : Int) := by omega
      go_wp2_with fail
      go_region_held3 (fun W => W.cell? ⟨b, off + i * 2, none⟩ = some (.int .i64 tx) ∧ W.cell? ⟨b, off + i * 2 + 1, none⟩ = some (.string sx) ∧ W.cell? ⟨b', off' + i * 2, none⟩ = some (.int .i64 ty) ∧ W.cell? ⟨b', off' + i * 2 + 1, none⟩ = some (.string sy))
        (go_keep)
        (fail)
      · have L2 : Below w.heap.size w (((wr.alloc (.cells #[.int .i64 tx, .string sx] 111)).alloc (.cells #[.int .i64 ty, .string sy] 111)).drew) := ((hQ.trans ((nbelow wr _).mono hQ.size)).trans ((nbelow _ _).mono (by have := hQ.size; simp; omega))).drew
        by_cases e1 : tx = ty
        · subst e1
          by_cases e2 : foldS sx = foldS sy
          · have e3 := decide_eq_true e2
            have hE' : Hid (∀ j, j < i + 1 → (xs.map key)[j]? = (ys.map key)[j]?) := fun j hj => by
              by_cases h : j < i
              · exact hE.out j h
              · obtain rfl : j = i := by omega
                rw [kx.out, ky.out]
                unfold key
                rw [e2]
            clear e2
            go_wp2_with (go_at_call 160; refine (hS.out sx sy zx.out zy.out _).mono ?_; rintro e w1 ⟨rfl, L1⟩; rw [e3])
            go_roundw
            case rel => exact ⟨i + 1, by omega, by go_num, L2.trans (L1.mono L2.size), hE'⟩
            case measure => simp [intOf]; omega
          · have e3 := decide_eq_false e2
            have hN : Hid (shN (xs.map key) (ys.map key) = i) := shN_at _ _ i (by rw [List.length_map, hla.out]; omega) (by rw [List.length_map, hlb.out]; omega) hE.out (.inr (.inr (by
              rw [kx.out, ky.out]
              intro h
              unfold key at h
              simp at h
              exact e2 h)))
            clear e2
            go_wp2_with (go_at_call 160; refine (hS.out sx sy zx.out zy.out _).mono ?_; rintro e w1 ⟨rfl, L1⟩; rw [e3])
            try simp only [Exit.noGoto_ret]
            go_ret
            exact ⟨by rw [hN.out]; rfl, L2.trans (L1.mono L2.size)⟩
        · have hN : Hid (shN (xs.map key) (ys.map key) = i) := shN_at _ _ i (by rw [List.length_map, hla.out]; omega) (by rw [List.length_map, hlb.out]; omega) hE.out (.inr (.inr (by
            rw [kx.out, ky.out]
            intro h
            unfold key at h
            simp at h
            exact e1 h.1)))
          go_wp2
          try simp only [Exit.noGoto_ret]
          go_ret
          exact ⟨by rw [hN.out]; rfl, L2⟩
      · have L2 : Below w.heap.size w (((wr.alloc (.cells #[.int .i64 ty, .string sy] 111)).alloc (.cells #[.int .i64 tx, .string sx] 111)).drew) := ((hQ.trans ((nbelow wr _).mono hQ.size)).trans ((nbelow _ _).mono (by have := hQ.size; simp; omega))).drew
        by_cases e1 : tx = ty
        · subst e1
          by_cases e2 : foldS sx = foldS sy
          · have e3 := decide_eq_true e2
            have hE' : Hid (∀ j, j < i + 1 → (xs.map key)[j]? = (ys.map key)[j]?) := fun j hj => by
              by_cases h : j < i
              · exact hE.out j h
              · obtain rfl : j = i := by omega
                rw [kx.out, ky.out]
                unfold key
                rw [e2]
            clear e2
            go_wp2_with (go_at_call 160; refine (hS.out sx sy zx.out zy.out _).mono ?_; rintro e w1 ⟨rfl, L1⟩; rw [e3])
            go_roundw
            case rel => exact ⟨i + 1, by omega, by go_num, L2.trans (L1.mono L2.size), hE'⟩
            case measure => simp [intOf]; omega
          · have e3 := decide_eq_false e2
            have hN : Hid (shN (xs.map key) (ys.map key) = i) := shN_at _ _ i (by rw [List.length_map, hla.out]; omega) (by rw [List.length_map, hlb.out]; omega) hE.out (.inr (.inr (by
              rw [kx.out, ky.out]
              intro h
              unfold key at h
              simp at h
              exact e2 h)))
            clear e2
            go_wp2_with (go_at_call 160; refine (hS.out sx sy zx.out zy.out _).mono ?_; rintro e w1 ⟨rfl, L1⟩; rw [e3])
            try simp only [Exit.noGoto_ret]
            go_ret
            exact ⟨by rw [hN.out]; rfl, L2.trans (L1.mono L2.size)⟩
        · have hN : Hid (shN (xs.map key) (ys.map key) = i) := shN_at _ _ i (by rw [List.length_map, hla.out]; omega) (by rw [List.length_map, hlb.out]; omega) hE.out (.inr (.inr (by
            rw [kx.out, ky.out]
            intro h
            unfold key at h
            simp at h
            exact e1 h.1)))
          go_wp2
          try simp only [Exit.noGoto_ret]
          go_ret
          exact ⟨by rw [hN.out]; rfl, L2⟩
    · obtain rfl : i = k := by omega
      have jk : ¬ (i : Int) < (i : Int) := by omega
      have hN : Hid (shN (xs.map key) (ys.map key) = i) := shN_at _ _ i (by rw [List.length_map, hla.out]; omega) (by rw [List.length_map, hlb.out]; omega) hE.out (by rw [List.length_map, List.length_map, hla.out, hlb.out]; rcases hk3.out with h | h <;> simp [h])
      go_wp2
      try simp only [Exit.noGoto_ret]
      go_ret
      exact ⟨by rw [hN.out]; rfl, hQ⟩

set_option maxRecDepth 100000 in
theorem begins_any (aa : Option Addr) (na ca : Nat) (xs : List (Int × ByteArray)) (ab : Option Addr) (nb cb : Nat) (ys : List (Int × ByteArray)) (w : World) (hA : Ats w aa na ca xs) (hB : Ats w ab nb cb ys) :
    Calls Tryz.prog 110 #[.slice aa na ca, .slice ab nb cb] w fun e w' => e = .returned (.bool (bg (xs.map key) (ys.map key))) ∧ Below w.heap.size w w' := by
  have hS := hide (fun W (h : W.heap = w.heap) => shared_any aa na ca xs ab nb cb ys W (hA.heap h) (hB.heap h))
  have hb := hide (shN_bg (xs.map key) (ys.map key))
  have hl : Hid ((ys.map key).length = nb) := by unfold Hid; rw [List.length_map, hB.hl]
  generalize shN (xs.map key) (ys.map key) = N at hS hb
  go_enter Tryz.func110, Tryz.ntmps110
  go_wp2_with (go_at_call 140; refine (hS.out _ (by rfl)).mono ?_; rintro e w1 ⟨rfl, h1⟩)
  go_ret
  refine ⟨?_, h1⟩
  rw [← hb.out, hl.out]
  show Ending.returned (Value.bool ((N : Int) == (nb : Int))) = _
  congr 2
  by_cases h : N = nb
  · subst h; simp
  · rw [decide_eq_false h, beq_eq_false_iff_ne]; intro h'; exact h (by omega)

end Go.Proofs.YtklchpdpooikdaaGreatDoor

namespace Go.Proofs.YtklchpdpooikdaaGreatDoor
open Go.RowKit Go.IntWalk Go.Shelf

theorem may_de (k : Int) (hk : k = 12 ∨ k = 19) : mayL k [68, 69] = true := by
  rcases hk with rfl | rfl <;> decide

theorem great_any (b : Int) (h1 : 65 ≤ b) (h2 : b ≤ 90) (w : World) :
    Calls Tryz.prog 193 #[.int .u8 b] w fun e w' => e = .returned (.bool true) ∧ w' = w := by
  go_enter Tryz.func193, Tryz.ntmps193
  go_wp2
  go_ret
  exact ⟨rfl, rfl⟩

set_option maxRecDepth 100000 in
theorem country_de (w : World) :
    Calls Tryz.prog 181 #[.string ⟨#[68, 69]⟩] w fun e w' => e = .returned (.bool true) ∧ w' = w := by
  go_enter Tryz.func181, Tryz.ntmps181
  go_wp2_with (go_at_call 193; refine (great_any _ (by decide) (by decide) _).mono ?_; rintro e w1 ⟨rfl, hw⟩; have hw2 := hw.symm; subst hw2)
  go_ret
  exact ⟨rfl, rfl⟩

set_option maxRecDepth 100000 in
theorem mayBe_de (w : World) :
    Calls Tryz.prog 171 #[.agg #[.int .i64 6, .string ⟨#[68, 69]⟩]] w fun e w' => e = .returned (.bool true) ∧ Below w.heap.size w w' := by
  have m1 := hide (fun W => may_any 19 ⟨#[68, 69]⟩ (by decide) W)
  have m2 := hide (fun W => may_any 12 ⟨#[68, 69]⟩ (by decide) W)
  have e1 := may_de 19 (.inr rfl)
  have e2 := may_de 12 (.inl rfl)
  have hB := nbelow w (.cells #[.int .i64 6, .string ⟨#[68, 69]⟩] 111)
  go_enter Tryz.func171, Tryz.ntmps171
  go_wp2_with (first
    | (go_at_call 181; refine (country_de _).mono ?_; rintro e w1 ⟨rfl, hw⟩; have hw2 := hw.symm; subst hw2)
    | (go_at_call_of 182 (19 : Int); refine (m1.out _).mono ?_; rintro e w1 ⟨rfl, L1⟩; have c1 := (L1.cell (p := ⟨w.heap.size, 1, none⟩) (by simp)).trans (show (w.alloc (.cells #[.int .i64 6, .string ⟨#[68, 69]⟩] 111)).cell? ⟨w.heap.size, 1, none⟩ = some (.string ⟨#[68, 69]⟩) by simp); replace hB := hB.trans (L1.mono hB.size); rw [e1])
    | (go_at_call_of 182 (12 : Int); refine (m2.out _).mono ?_; rintro e w2 ⟨rfl, L2⟩; replace hB := hB.trans (L2.mono hB.size); rw [e2]))
  go_ret
  exact ⟨rfl, hB⟩

set_option maxRecDepth 100000 in
theorem may_one (w : World) :
    Calls Tryz.prog 151 #[.slice (some ⟨w.heap.size, 0, none⟩) 1 1] (w.alloc (.cells #[.int .i64 6, .string ⟨#[68, 69]⟩] 111)) fun e w' => e = .returned (.bool true) ∧ Below w.heap.size w w' := by
  have hm := hide mayBe_de
  have hB := nbelow w (.cells #[.int .i64 6, .string ⟨#[68, 69]⟩] 111)
  have c0 : (w.alloc (.cells #[.int .i64 6, .string ⟨#[68, 69]⟩] 111)).cell? ⟨w.heap.size, 0, none⟩ = some (.int .i64 6) := by simp
  have c1 : (w.alloc (.cells #[.int .i64 6, .string ⟨#[68, 69]⟩] 111)).cell? ⟨w.heap.size, 1, none⟩ = some (.string ⟨#[68, 69]⟩) := by simp
  generalize (w.alloc (.cells #[.int .i64 6, .string ⟨#[68, 69]⟩] 111)) = W at hB c0 c1 ⊢
  have hs := hB.size
  generalize w.heap.size = g at hB c0 c1 hs ⊢
  go_enter Tryz.func151, Tryz.ntmps151
  go_wp2
  go_loopw [10] (fun v wr => (v = .int .i64 0 ∧ wr = W) ∨ (v = .int .i64 1 ∧ Below W.heap.size W wr)) (fun v _ => 1 - (intOf v).toNat)
  case atStart => exact .inl ⟨rfl, rfl⟩
  case round =>
    rcases hrel with ⟨rfl, rfl⟩ | ⟨rfl, hQ⟩
    · go_wp2_with (go_at_call 171; refine (hm.out _).mono ?_; rintro e w1 ⟨rfl, h1⟩)
      go_roundw
      case rel => exact .inr ⟨rfl, (nbelow _ _).trans (h1.mono (by simp))⟩
      case measure => simp [intOf]
    · go_wp2
      go_ret
      exact ⟨rfl, hB.trans (hQ.mono hs)⟩

end Go.Proofs.YtklchpdpooikdaaGreatDoor
