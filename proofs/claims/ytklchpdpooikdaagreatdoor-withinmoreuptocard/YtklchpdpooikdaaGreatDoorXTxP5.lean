/-
  The document's Prints, May and Kind.
-/
import Derived.Test.YtklchpdpooikdaaGreatDoorXTxP3ToTxP4
namespace Go.Proofs.YtklchpdpooikdaaGreatDoor
open Go.RowKit Go.IntWalk

theorem marks_at : ∀ k : Nat, ∀ h : k < marksB.size, (marksB[k]'h).toNat = [32, 39, 40, 41, 43, 44, 45, 46, 47, 58, 61, 63].getD k 0 := by
  intro k h
  have h12 : k < 12 := h
  have : k = 0 ∨ k = 1 ∨ k = 2 ∨ k = 3 ∨ k = 4 ∨ k = 5 ∨ k = 6 ∨ k = 7 ∨ k = 8 ∨ k = 9 ∨ k = 10 ∨ k = 11 := by omega
  rcases this with rfl | rfl | rfl | rfl | rfl | rfl | rfl | rfl | rfl | rfl | rfl | rfl <;> rfl

/-- The marks from a place on. -/
def marksFrom (k : Nat) : List Nat := [32, 39, 40, 41, 43, 44, 45, 46, 47, 58, 61, 63].drop k

theorem marksFrom_step (k c : Nat) (h : k < 12) : (marksFrom k).contains c = (decide (c = [32, 39, 40, 41, 43, 44, 45, 46, 47, 58, 61, 63].getD k 0) || (marksFrom (k + 1)).contains c) := by
  unfold marksFrom
  have hl : k < [32, 39, 40, 41, 43, 44, 45, 46, 47, 58, 61, 63].length := h
  rw [List.drop_eq_getElem_cons hl, List.contains_cons, List.getD_eq_getElem?_getD, List.getElem?_eq_getElem hl]
  rfl



set_option maxRecDepth 100000 in
set_option maxHeartbeats 2000000 in
theorem prints_any (c : Nat) (hc : c < 256) (w : World) :
    Calls Tryz.prog 157 #[.int .u8 c] w fun e w' => e = .returned (.bool (printN c)) ∧ w' = w := by
  have hP : Hid (printN c = (decide (65 ≤ c ∧ c ≤ 90) || decide (97 ≤ c ∧ c ≤ 122) || decide (48 ≤ c ∧ c ≤ 57) || markN c)) := rfl
  have hA := hide marks_at
  have hM : Hid ((marksFrom 0).contains c = markN c) := rfl
  generalize markN c = M at hP hM
  generalize printN c = R at hP ⊢
  by_cases h1 : (65 ≤ c ∧ c ≤ 90) ∨ (97 ≤ c ∧ c ≤ 122) ∨ (48 ≤ c ∧ c ≤ 57)
  · have hR : R = true := by rw [hP.out]; simp; omega
    subst hR
    clear hP
    go_enter Tryz.func157, Tryz.ntmps157
    go_wp2
    all_goals first
      | (exfalso; omega)
      | (go_ret; exact ⟨rfl, rfl⟩)
  · have hR : Hid (R = M) := by unfold Hid; rw [hP.out, Bool.eq_iff_iff]; cases M <;> simp <;> omega
    clear hP
    have e1 : ¬ ((97 : Int) ≤ c ∧ (c : Int) ≤ 122) := by omega
    have e2 : ¬ ((65 : Int) ≤ c ∧ (c : Int) ≤ 90) := by omega
    have e3 : ¬ ((48 : Int) ≤ c ∧ (c : Int) ≤ 57) := by omega
    go_enter Tryz.func157, Tryz.ntmps157
    have hm : marksB = ⟨#[32, 39, 40, 41, 43, 44, 45, 46, 47, 58, 61, 63]⟩ := rfl
    rw [← hm]
    generalize hm2 : marksB = m at hA
    have hz : m.size = 12 := by rw [← hm2]; rfl
    clear hm hm2
    go_wp2
    · go_loop [4] (fun i => ∃ k : Nat, i = .int .i64 k ∧ k ≤ 12 ∧ Hid (R = (marksFrom k).contains c)) (fun i => 12 - (intOf i).toNat)
      case atStart => exact ⟨0, rfl, by omega, by unfold Hid; rw [hR.out, ← hM.out]⟩
      case round =>
        obtain ⟨k, rfl, hk, hE⟩ := hrel
        by_cases hlt : k < 12
        · have hsz : k < m.size := by omega
          have hb := hA.out k hsz
          have st := hide (marksFrom_step k c hlt)
          generalize [32, 39, 40, 41, 43, 44, 45, 46, 47, 58, 61, 63].getD k 0 = x at hb st
          by_cases he : c = x
          · have hF : Hid (R = true) := by unfold Hid; rw [hE.out, st.out, decide_eq_true he]; rfl
            subst he
            go_wp2
            go_ret
            exact ⟨by rw [hF.out]; rfl, rfl⟩
          · have hF : Hid (R = (marksFrom (k + 1)).contains c) := by unfold Hid; rw [hE.out, st.out, decide_eq_false he]; rfl
            have hq : ((x : Int) == (c : Int)) = false := by simp; omega
            go_wp2
            exact ⟨⟨k + 1, by simp, by omega, hF⟩, by simp [intOf]; omega⟩
        · obtain rfl : k = 12 := by omega
          have hF : Hid (R = false) := hE
          go_wp2
          go_ret
          exact ⟨by rw [hF.out]; rfl, rfl⟩
    · go_loop [4] (fun i => ∃ k : Nat, i = .int .i64 k ∧ k ≤ 12 ∧ Hid (R = (marksFrom k).contains c)) (fun i => 12 - (intOf i).toNat)
      case atStart => exact ⟨0, rfl, by omega, by unfold Hid; rw [hR.out, ← hM.out]⟩
      case round =>
        obtain ⟨k, rfl, hk, hE⟩ := hrel
        by_cases hlt : k < 12
        · have hsz : k < m.size := by omega
          have hb := hA.out k hsz
          have st := hide (marksFrom_step k c hlt)
          generalize [32, 39, 40, 41, 43, 44, 45, 46, 47, 58, 61, 63].getD k 0 = x at hb st
          by_cases he : c = x
          · have hF : Hid (R = true) := by unfold Hid; rw [hE.out, st.out, decide_eq_true he]; rfl
            subst he
            go_wp2
            go_ret
            exact ⟨by rw [hF.out]; rfl, rfl⟩
          · have hF : Hid (R = (marksFrom (k + 1)).contains c) := by unfold Hid; rw [hE.out, st.out, decide_eq_false he]; rfl
            have hq : ((x : Int) == (c : Int)) = false := by simp; omega
            go_wp2
            exact ⟨⟨k + 1, by simp, by omega, hF⟩, by simp [intOf]; omega⟩
        · obtain rfl : k = 12 := by omega
          have hF : Hid (R = false) := hE
          go_wp2
          go_ret
          exact ⟨by rw [hF.out]; rfl, rfl⟩
    · go_loop [4] (fun i => ∃ k : Nat, i = .int .i64 k ∧ k ≤ 12 ∧ Hid (R = (marksFrom k).contains c)) (fun i => 12 - (intOf i).toNat)
      case atStart => exact ⟨0, rfl, by omega, by unfold Hid; rw [hR.out, ← hM.out]⟩
      case round =>
        obtain ⟨k, rfl, hk, hE⟩ := hrel
        by_cases hlt : k < 12
        · have hsz : k < m.size := by omega
          have hb := hA.out k hsz
          have st := hide (marksFrom_step k c hlt)
          generalize [32, 39, 40, 41, 43, 44, 45, 46, 47, 58, 61, 63].getD k 0 = x at hb st
          by_cases he : c = x
          · have hF : Hid (R = true) := by unfold Hid; rw [hE.out, st.out, decide_eq_true he]; rfl
            subst he
            go_wp2
            go_ret
            exact ⟨by rw [hF.out]; rfl, rfl⟩
          · have hF : Hid (R = (marksFrom (k + 1)).contains c) := by unfold Hid; rw [hE.out, st.out, decide_eq_false he]; rfl
            have hq : ((x : Int) == (c : Int)) = false := by simp; omega
            go_wp2
            exact ⟨⟨k + 1, by simp, by omega, hF⟩, by simp [intOf]; omega⟩
        · obtain rfl : k = 12 := by omega
          have hF : Hid (R = false) := hE
          go_wp2
          go_ret
          exact ⟨by rw [hF.out]; rfl, rfl⟩
    · go_loop [4] (fun i => ∃ k : Nat, i = .int .i64 k ∧ k ≤ 12 ∧ Hid (R = (marksFrom k).contains c)) (fun i => 12 - (intOf i).toNat)
      case atStart => exact ⟨0, rfl, by omega, by unfold Hid; rw [hR.out, ← hM.out]⟩
      case round =>
        obtain ⟨k, rfl, hk, hE⟩ := hrel
        by_cases hlt : k < 12
        · have hsz : k < m.size := by omega
          have hb := hA.out k hsz
          have st := hide (marksFrom_step k c hlt)
          generalize [32, 39, 40, 41, 43, 44, 45, 46, 47, 58, 61, 63].getD k 0 = x at hb st
          by_cases he : c = x
          · have hF : Hid (R = true) := by unfold Hid; rw [hE.out, st.out, decide_eq_true he]; rfl
            subst he
            go_wp2
            go_ret
            exact ⟨by rw [hF.out]; rfl, rfl⟩
          · have hF : Hid (R = (marksFrom (k + 1)).contains c) := by unfold Hid; rw [hE.out, st.out, decide_eq_false he]; rfl
            have hq : ((x : Int) == (c : Int)) = false := by simp; omega
            go_wp2
            exact ⟨⟨k + 1, by simp, by omega, hF⟩, by simp [intOf]; omega⟩
        · obtain rfl : k = 12 := by omega
          have hF : Hid (R = false) := hE
          go_wp2
          go_ret
          exact ⟨by rw [hF.out]; rfl, rfl⟩

set_option maxRecDepth 100000 in
set_option maxHeartbeats 2000000 in
theorem refMay_any (k : Int) (s : ByteArray) (hs : s.size ≤ 140737488355328) (w : World) :
    Calls Tryz.prog 131 #[.int .i64 k, .string s] w fun e w' => e = .returned (.bool (mayL k s.data.toList)) ∧ Below w.heap.size w w' := by
  have hl := size_len s
  by_cases h0 : 4096 < s.size
  · have hm : Hid (mayL k s.data.toList = false) := by unfold Hid mayL; rw [if_pos (by omega)]
    have h0' : (4096 : Int) < (s.size : Int) := by omega
    go_enter Tryz.func131, Tryz.ntmps131
    go_wp2
    go_ret
    exact ⟨by rw [hm.out]; rfl, Below.refl _ _⟩
  have h0' : ¬ (4096 : Int) < (s.size : Int) := by omega
  by_cases h1 : k = 12
  · subst h1
    have hm : Hid (mayL 12 s.data.toList = ((validL s.data.toList : Int) == (s.size : Int))) := by
      unfold Hid mayL; rw [if_neg (by omega), if_pos rfl, hl, Bool.eq_iff_iff]; simp; omega
    have hV := hide (fun W => refValid_any s hs W)
    generalize validL s.data.toList = V at hm hV
    go_enter Tryz.func131, Tryz.ntmps131
    go_wp2_with (go_at_call 156; refine (hV.out _).mono ?_; rintro e w2 ⟨rfl, h2⟩; rw [h2])
    go_ret
    exact ⟨by rw [hm.out]; rfl, Below.refl _ _⟩
  by_cases h2 : k = 19
  · subst h2
    have hm : Hid (mayL 19 s.data.toList = s.data.toList.all (fun b => printN b.toNat)) := by unfold Hid mayL; rw [if_neg (by omega), if_neg h1, if_pos rfl]
    go_enter Tryz.func131, Tryz.ntmps131
    go_wp2
    go_loop [5] (fun i => ∃ k : Nat, i = .int .i64 k ∧ k ≤ s.size ∧ Hid (mayL 19 s.data.toList = (s.data.toList.drop k).all (fun b => printN b.toNat))) (fun i => s.size - (intOf i).toNat)
    case atStart => exact ⟨0, rfl, by omega, by unfold Hid; rw [hm.out]; simp⟩
    case round =>
      obtain ⟨k, rfl, hk, hE⟩ := hrel
      by_cases hlt : k < s.size
      · have st := hide (all_step (fun n => printN n) s k hlt)
        have hb := (s[k]'hlt).toNat_lt
        have hP := hide (fun W => prints_any (s[k]'hlt).toNat (by omega) W)
        have hHi := hide (printN_high (s[k]'hlt).toNat)
        have hLo : Hid (printN (s[k]'hlt).toNat = true → (s[k]'hlt).toNat ≤ 127) := fun h => by
          rcases Nat.lt_or_ge (s[k]'hlt).toNat 128 with h2 | h2
          · omega
          · rw [hHi.out h2] at h; cases h
        have hIa : Hid (ia5N (s[k]'hlt).toNat = decide ((s[k]'hlt).toNat < 128)) := rfl
        cases hq : printN (s[k]'hlt).toNat with
        | false =>
          have hF : Hid (mayL 19 s.data.toList = false) := by unfold Hid; rw [hE.out, st.out, hq]; rfl
          try rw [hq] at hP
          try (have hgt : 127 < ((s[k]'hlt).toNat : Int) := by have h := hIa.out; rw [hq] at h; have := of_decide_eq_false h.symm; omega)
          clear hHi hLo st hE hq hIa
          go_wp2_with (go_at_call 157; refine (hP.out _).mono ?_; rintro e w2 ⟨rfl, h2⟩; rw [h2])
          go_ret
          exact ⟨by rw [hF.out]; rfl, Below.refl _ _⟩
        | true =>
          have hF : Hid (mayL 19 s.data.toList = (s.data.toList.drop (k + 1)).all (fun b => printN b.toNat)) := by unfold Hid; rw [hE.out, st.out, hq, Bool.true_and]
          have hle := hLo.out hq
          try rw [hq] at hP
          clear hHi hLo st hE hq hIa
          go_wp2_with (go_at_call 157; refine (hP.out _).mono ?_; rintro e w2 ⟨rfl, h2⟩; rw [h2])
          exact ⟨⟨k + 1, by simp, by omega, hF⟩, by simp [intOf]; omega⟩
      · have hF : Hid (mayL 19 s.data.toList = true) := by unfold Hid; rw [hE.out]; exact all_end (fun n => printN n) s k hlt
        go_wp2
        go_ret
        exact ⟨by rw [hF.out]; rfl, Below.refl _ _⟩
  by_cases h3 : k = 22
  · subst h3
    have hm : Hid (mayL 22 s.data.toList = s.data.toList.all (fun b => ia5N b.toNat)) := by unfold Hid mayL; rw [if_neg (by omega), if_neg h1, if_neg h2, if_pos rfl]
    go_enter Tryz.func131, Tryz.ntmps131
    go_wp2
    go_loop [5] (fun i => ∃ k : Nat, i = .int .i64 k ∧ k ≤ s.size ∧ Hid (mayL 22 s.data.toList = (s.data.toList.drop k).all (fun b => ia5N b.toNat))) (fun i => s.size - (intOf i).toNat)
    case atStart => exact ⟨0, rfl, by omega, by unfold Hid; rw [hm.out]; simp⟩
    case round =>
      obtain ⟨k, rfl, hk, hE⟩ := hrel
      by_cases hlt : k < s.size
      · have st := hide (all_step (fun n => ia5N n) s k hlt)
        have hb := (s[k]'hlt).toNat_lt
        have hP := hide (fun W => prints_any (s[k]'hlt).toNat (by omega) W)
        have hHi := hide (ia5N_high (s[k]'hlt).toNat)
        have hLo : Hid (ia5N (s[k]'hlt).toNat = true → (s[k]'hlt).toNat ≤ 127) := fun h => by
          rcases Nat.lt_or_ge (s[k]'hlt).toNat 128 with h2 | h2
          · omega
          · rw [hHi.out h2] at h; cases h
        have hIa : Hid (ia5N (s[k]'hlt).toNat = decide ((s[k]'hlt).toNat < 128)) := rfl
        cases hq : ia5N (s[k]'hlt).toNat with
        | false =>
          have hF : Hid (mayL 22 s.data.toList = false) := by unfold Hid; rw [hE.out, st.out, hq]; rfl
          try rw [hq] at hP
          try (have hgt : 127 < ((s[k]'hlt).toNat : Int) := by have h := hIa.out; rw [hq] at h; have := of_decide_eq_false h.symm; omega)
          clear hHi hLo st hE hq hIa
          go_wp2_with (go_at_call 157; refine (hP.out _).mono ?_; rintro e w2 ⟨rfl, h2⟩; rw [h2])
          go_ret
          exact ⟨by rw [hF.out]; rfl, Below.refl _ _⟩
        | true =>
          have hF : Hid (mayL 22 s.data.toList = (s.data.toList.drop (k + 1)).all (fun b => ia5N b.toNat)) := by unfold Hid; rw [hE.out, st.out, hq, Bool.true_and]
          have hle := hLo.out hq
          try rw [hq] at hP
          clear hHi hLo st hE hq hIa
          go_wp2_with (go_at_call 157; refine (hP.out _).mono ?_; rintro e w2 ⟨rfl, h2⟩; rw [h2])
          exact ⟨⟨k + 1, by simp, by omega, hF⟩, by simp [intOf]; omega⟩
      · have hF : Hid (mayL 22 s.data.toList = true) := by unfold Hid; rw [hE.out]; exact all_end (fun n => ia5N n) s k hlt
        go_wp2
        go_ret
        exact ⟨by rw [hF.out]; rfl, Below.refl _ _⟩
  · have hm : Hid (mayL k s.data.toList = false) := by unfold Hid mayL; rw [if_neg (by omega), if_neg h1, if_neg h2, if_neg h3]
    have q1 : (k == 12) = false := by simpa using h1
    have q2 : (k == 19) = false := by simpa using h2
    have q3 : (k == 22) = false := by simpa using h3
    have p1 : (k != 12) = true := by simpa using h1
    have p2 : (k != 19) = true := by simpa using h2
    have p3 : (k != 22) = true := by simpa using h3
    clear h1 h2 h3
    go_enter Tryz.func131, Tryz.ntmps131
    go_wp2
    go_ret
    exact ⟨by rw [hm.out]; rfl, Below.refl _ _⟩

set_option maxRecDepth 100000 in
theorem refKind_any (s : ByteArray) (hs : s.size ≤ 140737488355328) (w : World) :
    Calls Tryz.prog 93 #[.string s] w fun e w' => e = .returned (.tuple #[.int .i64 (kindL s.data.toList).1, .int .i64 (kindL s.data.toList).2]) ∧ Below w.heap.size w w' := by
  have m19 := hide (fun W => refMay_any 19 s hs W)
  have m12 := hide (fun W => refMay_any 12 s hs W)
  have hk : Hid (kindL s.data.toList = if mayL 19 s.data.toList = true then (19, 0) else if mayL 12 s.data.toList = true then (12, 0) else (0, 50)) := rfl
  generalize kindL s.data.toList = K at hk ⊢
  generalize mayL 19 s.data.toList = A at hk m19
  generalize mayL 12 s.data.toList = B at hk m12
  cases A with
  | true =>
    obtain rfl : K = (19, 0) := hk.out
    go_enter Tryz.func93, Tryz.ntmps93
    go_wp2_with (go_at_call_of 131 (Value.int .i64 19); refine (m19.out _).mono ?_; rintro e w2 ⟨rfl, h2⟩)
    refine bodyPost_ret (v := .tuple #[.int .i64 19, .int .i64 0]) (by simp [results, Tryz.results93, go_sem]) rfl ⟨rfl, h2⟩
  | false =>
    cases B with
    | true =>
      obtain rfl : K = (12, 0) := hk.out
      go_enter Tryz.func93, Tryz.ntmps93
      go_wp2_with (first | (go_at_call_of 131 (Value.int .i64 19); refine (m19.out _).mono ?_; rintro e w2 ⟨rfl, h2⟩) | (go_at_call_of 131 (Value.int .i64 12); refine (m12.out _).mono ?_; rintro e w3 ⟨rfl, h3⟩))
      refine bodyPost_ret (v := .tuple #[.int .i64 12, .int .i64 0]) (by simp [results, Tryz.results93, go_sem]) rfl ⟨rfl, h2.trans (h3.mono h2.size)⟩
    | false =>
      obtain rfl : K = (0, 50) := hk.out
      go_enter Tryz.func93, Tryz.ntmps93
      go_wp2_with (first | (go_at_call_of 131 (Value.int .i64 19); refine (m19.out _).mono ?_; rintro e w2 ⟨rfl, h2⟩) | (go_at_call_of 131 (Value.int .i64 12); refine (m12.out _).mono ?_; rintro e w3 ⟨rfl, h3⟩))
      refine bodyPost_ret (v := .tuple #[.int .i64 0, .int .i64 50]) (by simp [results, Tryz.results93, go_sem]) rfl ⟨rfl, h2.trans (h3.mono h2.size)⟩

end Go.Proofs.YtklchpdpooikdaaGreatDoor
