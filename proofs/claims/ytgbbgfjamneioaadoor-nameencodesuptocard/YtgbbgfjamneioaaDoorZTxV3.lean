/-
  Valid, both the document's and the program's: how far a text is UTF-8.
-/
import Derived.Test.YtgbbgfjamneioaaDoorZTxV2
import Derived.Test.YtgbbgfjamneioaaDoorZShelfAll
import Derived.Lib.OthersKept
namespace Go.Proofs.YtgbbgfjamneioaaDoor
open Go.RowKit Go.IntWalk

set_option maxRecDepth 100000 in
set_option maxHeartbeats 1000000 in
theorem refValid_any (s : ByteArray) (hs : s.size ≤ 140737488355328) (w : World) :
    Calls Tryd.prog 75 #[.string s] w fun e w' => e = .returned (.int .i64 (validL s.data.toList)) ∧ w' = w := by
  go_enter Tryd.func75, Tryd.ntmps75
  go_wp2
  go_loop [3] (fun i => ∃ k : Nat, i = .int .i64 k ∧ k ≤ s.size ∧ Hid (validL s.data.toList = k + validL (s.data.toList.drop k))) (fun i => s.size - (intOf i).toNat)
  case atStart => exact ⟨0, rfl, by omega, by unfold Hid; simp⟩
  case round =>
    obtain ⟨k, rfl, hk, hE⟩ := hrel
    by_cases hlt : k < s.size
    · have hC := hide (fun W => character_any s k hs hlt W)
      have hl := len_at s k
      have hle := charL_le (s.data.toList.drop k) (by omega)
      have st := hide (validL_stop (s.data.toList.drop k))
      have sp := hide (validL_step (s.data.toList.drop k) (by omega))
      rw [List.drop_drop] at sp
      generalize hc : charL (s.data.toList.drop k) = c at hC hle st sp
      clear hc
      by_cases h0 : c = 0
      · subst h0
        have hz : Hid (validL s.data.toList = k) := by unfold Hid; rw [hE.out, st.out (.inr rfl)]; rfl
        have hC : Hid (∀ W, Calls Tryd.prog 92 #[.string s, .int .i64 k] W fun e w' => e = .returned (.int .i64 0) ∧ w' = W) := hC
        go_wp2_with (go_at_call 92; refine (hC.out _).mono ?_; rintro e w' ⟨rfl, rfl⟩)
        go_ret
        exact ⟨by rw [hz.out]; rfl, rfl⟩
      · have hn : Hid (validL s.data.toList = (k + c : Nat) + validL (s.data.toList.drop (k + c))) := by unfold Hid; rw [hE.out, sp.out h0]; omega
        have hq : ((c : Int) == 0) = false := by simpa using h0
        go_wp2_with (go_at_call 92; refine (hC.out _).mono ?_; rintro e w' ⟨rfl, rfl⟩)
        exact ⟨⟨k + c, by simp, by omega, hn⟩, by simp [intOf]; omega⟩
    · obtain rfl : k = s.size := by omega
      have hz : Hid (validL s.data.toList = s.size) := by unfold Hid; rw [hE.out, validL_stop _ (.inl (by rw [len_at]; omega))]; rfl
      go_wp2
      go_ret
      exact ⟨by rw [hz.out]; rfl, rfl⟩

theorem prefix_mark (l : List UInt8) : Lib.hasPrefix l [239, 191, 189] = decide (bt l 0 = 239 ∧ bt l 1 = 191 ∧ bt l 2 = 189 ∧ 3 ≤ l.length) := by
  have e : ∀ (x y : UInt8), (y == x) = decide (x.toNat = y.toNat) := fun x y => by
    by_cases h : x = y
    · subst h; simp
    · have h2 : ¬ x.toNat = y.toNat := fun h3 => h (UInt8.toNat_inj.1 h3)
      have h4 : (y == x) = false := by rw [beq_eq_false_iff_ne]; exact fun h5 => h h5.symm
      rw [h4, decide_eq_false h2]
  match l with
  | [] => simp [Lib.hasPrefix, bt]
  | [a] => simp [Lib.hasPrefix, bt, List.isPrefixOf]
  | [a, b] => simp [Lib.hasPrefix, bt, List.isPrefixOf]
  | a :: b :: c :: r => simp [Lib.hasPrefix, bt, List.isPrefixOf, e, Bool.decide_and]

theorem extract_end (s : ByteArray) (k : Nat) : (s.extract k s.size).data.toList = s.data.toList.drop k := by
  rw [ByteArray.data_extract, Array.toList_extract]
  show (s.data.toList.drop k).take (s.size - k) = _
  rw [List.take_of_length_le]
  rw [List.length_drop, Array.length_toList]
  exact Nat.le_refl _

theorem below_iter (w : World) (s : ByteArray) (p : Nat) : Below w.heap.size w (w.iter s p) := (Below.refl _ w).alloc (Nat.le_refl _) _

set_option maxRecDepth 100000 in
set_option maxHeartbeats 1000000 in
theorem valid_any (s : ByteArray) (hs : s.size ≤ 140737488355328) (w : World) :
    Calls Tryd.prog 81 #[.string s] w fun e w' => e = .returned (.int .i64 (validL s.data.toList)) ∧ Below w.heap.size w w' := by
  go_enter Tryd.func81, Tryd.ntmps81
  go_wp2
  go_loopw [] (fun wr => ∃ pos : Nat, wr = w.iter s pos ∧ pos ≤ s.size ∧ Hid (validL s.data.toList = pos + validL (s.data.toList.drop pos))) (fun wr => s.size - wr.iterPos w.heap.size)
  case atStart => exact ⟨0, rfl, by omega, by unfold Hid; simp⟩
  case round =>
    obtain ⟨pos, rfl, hk, hE⟩ := hrel
    by_cases hp : pos < s.size
    · have hnx : ∀ ty, (Instr.next (.pointer (some ⟨w.heap.size, 0, none⟩)) true ty).run Tryd.prog (w.iter s pos) = _ := fun ty => run_next_any w s pos ty hp
      have dc := decode_char s pos hp
      have hl := len_at s pos
      have hle := charL_le (s.data.toList.drop pos) (by omega)
      have st := hide (validL_stop (s.data.toList.drop pos))
      have sp := hide (validL_step (s.data.toList.drop pos) (by omega))
      have mk := hide (charL_mark (s.data.toList.drop pos))
      have hP := hide (fun W => Tryd.strings_HasPrefix (s.extract pos s.size) ⟨#[239, 191, 189]⟩ W)
      have e1 : (⟨#[239, 191, 189]⟩ : ByteArray).data.toList = [239, 191, 189] := rfl
      rw [extract_end, e1, prefix_mark] at hP
      rw [List.drop_drop] at sp
      rcases dc with ⟨h0, hd⟩ | ⟨h0, hw, hm⟩
      · have hz : Hid (validL s.data.toList = pos) := by unfold Hid; rw [hE.out, st.out (.inr h0)]; rfl
        have hf := decide_eq_false (mk.out h0)
        rw [hf] at hP
        rw [hd] at hnx
        clear hf mk st sp hd h0 hE hle hl
        go_wp2_with (go_at_call 95; refine (hP.out _).mono ?_; rintro e w' ⟨rfl, hw⟩; rw [hw])
        go_ret
        exact ⟨by rw [hz.out]; rfl, below_iter _ _ _⟩
      · have hn : Hid (validL s.data.toList = (pos + charL (s.data.toList.drop pos) : Nat) + validL (s.data.toList.drop (pos + charL (s.data.toList.drop pos)))) := by unfold Hid; rw [hE.out, sp.out h0]; omega
        rw [hw] at hnx
        clear mk st sp hE hw
        generalize charL (s.data.toList.drop pos) = c at hnx hn h0 hle
        generalize (Utf8.decode s pos).1 = r at hnx hm
        by_cases hr : r = 65533
        · have hf := decide_eq_true (hm hr)
          rw [hf] at hP
          subst hr
          clear hf hm
          go_wp2_with (go_at_call 95; refine (hP.out _).mono ?_; rintro e w' ⟨rfl, hw⟩; rw [hw])
          go_roundw
          case rel => exact ⟨pos + c, rfl, by omega, hn⟩
          case measure => simp; omega
        · have hq : ((r : Int) == 65533) = false := by simp; omega
          clear hm
          go_wp2_with (go_at_call 95; refine (hP.out _).mono ?_; rintro e w' ⟨rfl, hw⟩; rw [hw])
          go_roundw
          case rel => exact ⟨pos + c, rfl, by omega, hn⟩
          case measure => simp; omega
    · have hnx : ∀ ty, (Instr.next (.pointer (some ⟨w.heap.size, 0, none⟩)) true ty).run Tryd.prog (w.iter s pos) = _ := fun ty => run_next_end w s pos ty hp
      obtain rfl : pos = s.size := by omega
      have hz : Hid (validL s.data.toList = s.size) := by unfold Hid; rw [hE.out, validL_stop _ (.inl (by rw [len_at]; omega))]; rfl
      go_wp2
      go_ret
      exact ⟨by rw [hz.out]; rfl, below_iter _ _ _⟩

end Go.Proofs.YtgbbgfjamneioaaDoor
