/-
  Valid, both the document's and the program's: how far a text is UTF-8.
  Whether a PrintableString may have a character: the library's search among the marks.
  Which characters a PrintableString and an IA5String may have; a text all of whose characters may be there.
  May and Kind, both the program's and the document's: of which kind a text is.
  May and Kind, both the program's and the document's: of which kind a text is.
-/
import Derived.Test.YtklchpdpooikdaaGreatDoorYLentToTxV2
import Derived.Test.YtklchpdpooikdaaGreatDoorYShelfAll
import Derived.Lib.OthersKept
import Derived.Laws.Runes
import Derived.WalkMore
import Derived.Deep.QuietTactic
import Derived.BigQuiet
namespace Go.Proofs.YtklchpdpooikdaaGreatDoor
open Go.RowKit Go.IntWalk

set_option maxRecDepth 100000 in
set_option maxHeartbeats 1000000 in
theorem refValid_any (s : ByteArray) (hs : s.size ≤ 140737488355328) (w : World) :
    Calls Tryz.prog 156 #[.string s] w fun e w' => e = .returned (.int .i64 (validL s.data.toList)) ∧ w' = w := by
  go_enter Tryz.func156, Tryz.ntmps156
  go_wp2
  go_loop [3] (fun i => ∃ k : Nat, i = .int .i64 k ∧ k ≤ s.size ∧ Hid (validL s.data.toList = k + validL (s.data.toList.drop k))) (fun i => s.size - (intOf i).toNat)
  case atStart => exact ⟨0, rfl, by omega, by unfold Hid; simp⟩
  case round =>
    obtain ⟨k, rfl, hk, hE⟩ := hrel
    by_cases hlt : k < s.size
    · have hC := hide (fun W => character_any s k hs hlt W)
      have hl := len_at s k
      have hle := charL_le (s.data.toList.drop k) (by omega)
      have st := hide (validL_stop (s.data.toList.drop k))
      have sp := hide (validL_step (s.data.toList.drop k) (by omega))
      rw [List.drop_drop] at sp
      generalize hc : charL (s.data.toList.drop k) = c at hC hle st sp
      clear hc
      by_cases h0 : c = 0
      · subst h0
        have hz : Hid (validL s.data.toList = k) := by unfold Hid; rw [hE.out, st.out (.inr rfl)]; rfl
        have hC : Hid (∀ W, Calls Tryz.prog 175 #[.string s, .int .i64 k] W fun e w' => e = .returned (.int .i64 0) ∧ w' = W) := hC
        go_wp2_with (go_at_call 175; refine (hC.out _).mono ?_; rintro e w' ⟨rfl, rfl⟩)
        go_ret
        exact ⟨by rw [hz.out]; rfl, rfl⟩
      · have hn : Hid (validL s.data.toList = (k + c : Nat) + validL (s.data.toList.drop (k + c))) := by unfold Hid; rw [hE.out, sp.out h0]; omega
        have hq : ((c : Int) == 0) = false := by simpa using h0
        go_wp2_with (go_at_call 175; refine (hC.out _).mono ?_; rintro e w' ⟨rfl, rfl⟩)
        exact ⟨⟨k + c, by simp, by omega, hn⟩, by simp [intOf]; omega⟩
    · obtain rfl : k = s.size := by omega
      have hz : Hid (validL s.data.toList = s.size) := by unfold Hid; rw [hE.out, validL_stop _ (.inl (by rw [len_at]; omega))]; rfl
      go_wp2
      go_ret
      exact ⟨by rw [hz.out]; rfl, rfl⟩

theorem prefix_mark (l : List UInt8) : Lib.hasPrefix l [239, 191, 189] = decide (bt l 0 = 239 ∧ bt l 1 = 191 ∧ bt l 2 = 189 ∧ 3 ≤ l.length) := by
  have e : ∀ (x y : UInt8), (y == x) = decide (x.toNat = y.toNat) := fun x y => by
    by_cases h : x = y
    · subst h; simp
    · have h2 : ¬ x.toNat = y.toNat := fun h3 => h (UInt8.toNat_inj.1 h3)
      have h4 : (y == x) = false := by rw [beq_eq_false_iff_ne]; exact fun h5 => h h5.symm
      rw [h4, decide_eq_false h2]
  match l with
  | [] => simp [Lib.hasPrefix, bt]
  | [a] => simp [Lib.hasPrefix, bt, List.isPrefixOf]
  | [a, b] => simp [Lib.hasPrefix, bt, List.isPrefixOf]
  | a :: b :: c :: r => simp [Lib.hasPrefix, bt, List.isPrefixOf, e, Bool.decide_and]

theorem extract_end (s : ByteArray) (k : Nat) : (s.extract k s.size).data.toList = s.data.toList.drop k := by
  rw [ByteArray.data_extract, Array.toList_extract]
  show (s.data.toList.drop k).take (s.size - k) = _
  rw [List.take_of_length_le]
  rw [List.length_drop, Array.length_toList]
  exact Nat.le_refl _

theorem below_iter (w : World) (s : ByteArray) (p : Nat) : Below w.heap.size w (w.iter s p) := (Below.refl _ w).alloc (Nat.le_refl _) _

set_option maxRecDepth 100000 in
set_option maxHeartbeats 1000000 in
theorem valid_any (s : ByteArray) (hs : s.size ≤ 140737488355328) (w : World) :
    Calls Tryz.prog 194 #[.string s] w fun e w' => e = .returned (.int .i64 (validL s.data.toList)) ∧ Below w.heap.size w w' := by
  go_enter Tryz.func194, Tryz.ntmps194
  go_wp2
  go_loopw [] (fun wr => ∃ pos : Nat, wr = w.iter s pos ∧ pos ≤ s.size ∧ Hid (validL s.data.toList = pos + validL (s.data.toList.drop pos))) (fun wr => s.size - wr.iterPos w.heap.size)
  case atStart => exact ⟨0, rfl, by omega, by unfold Hid; simp⟩
  case round =>
    obtain ⟨pos, rfl, hk, hE⟩ := hrel
    by_cases hp : pos < s.size
    · have hnx : ∀ ty, (Instr.next (.pointer (some ⟨w.heap.size, 0, none⟩)) true ty).run Tryz.prog (w.iter s pos) = _ := fun ty => run_next_any w s pos ty hp
      have dc := decode_char s pos hp
      have hl := len_at s pos
      have hle := charL_le (s.data.toList.drop pos) (by omega)
      have st := hide (validL_stop (s.data.toList.drop pos))
      have sp := hide (validL_step (s.data.toList.drop pos) (by omega))
      have mk := hide (charL_mark (s.data.toList.drop pos))
      have hP := hide (fun W => Tryz.strings_HasPrefix (s.extract pos s.size) ⟨#[239, 191, 189]⟩ W)
      have e1 : (⟨#[239, 191, 189]⟩ : ByteArray).data.toList = [239, 191, 189] := rfl
      rw [extract_end, e1, prefix_mark] at hP
      rw [List.drop_drop] at sp
      rcases dc with ⟨h0, hd⟩ | ⟨h0, hw, hm⟩
      · have hz : Hid (validL s.data.toList = pos) := by unfold Hid; rw [hE.out, st.out (.inr h0)]; rfl
        have hf := decide_eq_false (mk.out h0)
        rw [hf] at hP
        rw [hd] at hnx
        clear hf mk st sp hd h0 hE hle hl
        go_wp2_with (go_at_call 200; refine (hP.out _).mono ?_; rintro e w' ⟨rfl, hw⟩; rw [hw])
        go_ret
        exact ⟨by rw [hz.out]; rfl, below_iter _ _ _⟩
      · have hn : Hid (validL s.data.toList = (pos + charL (s.data.toList.drop pos) : Nat) + validL (s.data.toList.drop (pos + charL (s.data.toList.drop pos)))) := by unfold Hid; rw [hE.out, sp.out h0]; omega
        rw [hw] at hnx
        clear mk st sp hE hw
        generalize charL (s.data.toList.drop pos) = c at hnx hn h0 hle
        generalize (Utf8.decode s pos).1 = r at hnx hm
        by_cases hr : r = 65533
        · have hf := decide_eq_true (hm hr)
          rw [hf] at hP
          subst hr
          clear hf hm
          go_wp2_with (go_at_call 200; refine (hP.out _).mono ?_; rintro e w' ⟨rfl, hw⟩; rw [hw])
          go_roundw
          case rel => exact ⟨pos + c, rfl, by omega, hn⟩
          case measure => simp; omega
        · have hq : ((r : Int) == 65533) = false := by simp; omega
          clear hm
          go_wp2_with (go_at_call 200; refine (hP.out _).mono ?_; rintro e w' ⟨rfl, hw⟩; rw [hw])
          go_roundw
          case rel => exact ⟨pos + c, rfl, by omega, hn⟩
          case measure => simp; omega
    · have hnx : ∀ ty, (Instr.next (.pointer (some ⟨w.heap.size, 0, none⟩)) true ty).run Tryz.prog (w.iter s pos) = _ := fun ty => run_next_end w s pos ty hp
      obtain rfl : pos = s.size := by omega
      have hz : Hid (validL s.data.toList = s.size) := by unfold Hid; rw [hE.out, validL_stop _ (.inl (by rw [len_at]; omega))]; rfl
      go_wp2
      go_ret
      exact ⟨by rw [hz.out]; rfl, below_iter _ _ _⟩

end Go.Proofs.YtklchpdpooikdaaGreatDoor

namespace Go.Proofs.YtklchpdpooikdaaGreatDoor
open Go.RowKit Go.IntWalk

def marksB : ByteArray := ⟨#[32, 39, 40, 41, 43, 44, 45, 46, 47, 58, 61, 63]⟩

theorem marks_ascii : ∀ b ∈ marksB.data.toList, b.toNat < 128 := by decide

theorem index_none (s : ByteArray) (k e : Nat) (c : UInt8) (h : ∀ b ∈ s.data.toList, b.toNat < 128) (hc : 128 ≤ c.toNat) : Lib.indexByte (s.extract k e).data.toList c = -1 := by
  rw [← Lib.firstIdx_eq]
  exact firstIdx_ascii s k e c h hc

theorem decode_marks (pos : Nat) (h : pos < 12) : Utf8.decode marksB pos = ((marksB.get! pos).toNat, 1) ∧ (marksB.get! pos).toNat < 128 := by
  have : pos = 0 ∨ pos = 1 ∨ pos = 2 ∨ pos = 3 ∨ pos = 4 ∨ pos = 5 ∨ pos = 6 ∨ pos = 7 ∨ pos = 8 ∨ pos = 9 ∨ pos = 10 ∨ pos = 11 := by omega
  rcases this with rfl | rfl | rfl | rfl | rfl | rfl | rfl | rfl | rfl | rfl | rfl | rfl <;> decide

set_option maxRecDepth 100000 in
set_option maxHeartbeats 2000000 in
theorem indexRune_mark (w : World) :
    Calls Tryz.prog 202 #[.string marksB, .int .i32 65533] w fun e w' => e = .returned (.int .i64 (-1)) ∧ Below w.heap.size w w' := by
  have hz : marksB.size = 12 := rfl
  go_enter Tryz.func202, Tryz.ntmps202
  generalize hm : marksB = m
  have hz : m.size = 12 := by rw [← hm]; rfl
  go_wp2
  go_loopw [] (fun wr => ∃ pos : Nat, wr = w.iter m pos ∧ pos ≤ 12) (fun wr => 12 - wr.iterPos w.heap.size)
  case atStart => exact ⟨0, rfl, by omega⟩
  case round =>
    obtain ⟨pos, rfl, hk⟩ := hrel
    by_cases hp : pos < m.size
    · have hnx : ∀ ty, (Instr.next (.pointer (some ⟨w.heap.size, 0, none⟩)) true ty).run Tryz.prog (w.iter m pos) = _ := fun ty => run_next_any w m pos ty hp
      have dm := decode_marks pos (by omega)
      rw [hm] at dm
      rw [dm.1] at hnx
      have d2 := dm.2
      clear dm
      generalize (m.get! pos).toNat = b at d2 hnx
      have hq : ((b : Int) == 65533) = false := by simp; omega
      go_wp2
      go_roundw
      case rel => exact ⟨pos + 1, rfl, by omega⟩
      case measure => simp; omega
    · have hnx : ∀ ty, (Instr.next (.pointer (some ⟨w.heap.size, 0, none⟩)) true ty).run Tryz.prog (w.iter m pos) = _ := fun ty => run_next_end w m pos ty hp
      go_wp2
      go_ret
      exact ⟨rfl, below_iter _ _ _⟩

set_option maxRecDepth 1000000 in
set_option maxHeartbeats 4000000 in
theorem indexRune_high (r : Nat) (h : 128 ≤ r) (h2 : r ≠ 65533) (h3 : r ≤ 2147483647) (w : World) :
    Calls Tryz.prog 202 #[.string marksB, .int .i32 r] w fun e w' => e = .returned (.int .i64 (-1)) ∧ Below w.heap.size w w' := by
  have hz : marksB.size = 12 := rfl
  have hV := hide (fun W => Tryz.utf8_ValidRune (r : Int) W)
  have q1 : ¬ (r : Int) < 128 := by omega
  have q2 : ((r : Int) == 65533) = false := by simp; omega
  cases hv : Lib.validRune r with
  | false =>
    rw [hv] at hV
    go_enter Tryz.func202, Tryz.ntmps202
    generalize marksB = m
    go_wp2_with (go_at_call 203; refine (hV.out _).mono ?_; rintro e w' ⟨rfl, hw⟩; rw [hw])
    go_ret
    exact ⟨rfl, Below.refl _ _⟩
  | true =>
    rw [hv] at hV
    have ev : Utf8.valid (r : Int) = true := by rw [validRune_eq]; exact hv
    obtain ⟨f1, f2, f3⟩ := encode_facts r ev (by omega)
    have hI := hide (index_none marksB)
    have hA := marks_ascii
    go_enter Tryz.func202, Tryz.ntmps202
    generalize hm : marksB = m at hI hA
    have hz : m.size = 12 := by rw [← hm]; rfl
    have hcv : ∀ W, (convert 21 9 (.int .i32 (r : Int))).run Tryz.prog W = .ok (.string (Utf8.encode (r : Int))) W := fun W => run_convert_int_string W _ _ _ _ (by rw [Tryz.underlying21]; rfl) Tryz.underlying9
    generalize Utf8.encode (r : Int) = E at f1 f2 f3 hcv
    obtain ⟨L, hL⟩ : ∃ L, E.size = L + 1 := ⟨E.size - 1, by omega⟩
    have f3' : ∀ h : L < E.size, 128 ≤ (E[L]'h).toNat := fun h => by have := f3 (by omega); simpa [hL] using this
    have e1 : (E.size : Int) - 1 = (L : Int) := by omega
    have lE : L < E.size := by omega
    have lM : L < m.size := by omega
    have g1 := f3' lE
    have g2 : (m[L]'lM).toNat < 128 := hA _ (by rw [ByteArray.getElem_eq_getElem_data]; exact Array.getElem_mem_toList _)
    have hI2 : Hid (Lib.indexByte (m.extract (L + 1) m.size).data.toList (E[L]'lE) = -1) := hI.out (L + 1) m.size _ hA g1
    have hne : (((m[L]'lM).toNat : Int) == ((E[L]'lE).toNat : Int)) = false := by simp; omega
    have hX := hide (fun W => Tryz.strings_IndexByte (m.extract (L + 1) m.size) ((E[L]'lE).toNat : Int) W)
    have e2 : ((E[L]'lE).toNat : Int).toNat.toUInt8 = E[L]'lE := by simp
    rw [e2, hI2.out, hz] at hX
    clear hI hI2 f3 f3' hA
    go_wp2_with (go_at_call 203; refine (hV.out _).mono ?_; rintro e w' ⟨rfl, hw⟩; rw [hw])
    go_step3
    go_wp2
    go_loopw [9, 10] (fun i f wr => i = .int .i64 (L : Int) ∧ f = .int .i64 0 ∧ wr = w) (fun _ _ _ => 0)
    case atStart => exact ⟨rfl, rfl, rfl⟩
    case round =>
      obtain ⟨rfl, rfl, rfl⟩ := hrel
      have gw : IntKind.i64.wrap ((L : Int) + 1) = (L : Int) + 1 := i64_in _ (by omega)
      have sl : ∀ W, (Instr.slice 9 (.string m) (some (.int .i64 ((L : Int) + 1))) none none).run Tryz.prog W = .ok (.string (m.extract (L + 1) m.size)) W := fun W => by
        have h := run_slice_string_l (P := Tryz.prog) (w := W) 9 m Tryz.underlying9 .i64 ((L : Int) + 1) (by omega) (by omega)
        rwa [show ((L : Int) + 1).toNat = L + 1 by omega] at h
      clear hm e1 hcv hV f1 f2 ev hv hL
      go_wp2
      go_step3
      go_wp2
      go_quiet (fail)
      go_wp2
      go_quiet ((go_at_call 115; exact (hX.out _).mono fun _ _ ⟨he, hm⟩ => ⟨he, _, hm⟩))
      go_wp2
      show bodyPost Tryz.prog Tryz.f202 (fun e w' => e = .returned (.int .i64 (-1)) ∧ Below wr.heap.size wr w') Exit.ret _ _
      go_ret
      exact ⟨rfl, ⟨rfl, rfl, rfl, Nat.le_refl _, fun _ _ => rfl⟩⟩

set_option maxRecDepth 100000 in
theorem containsRune_high (r : Nat) (h : 128 ≤ r) (h3 : r ≤ 2147483647) (w : World) :
    Calls Tryz.prog 201 #[.string marksB, .int .i32 r] w fun e w' => e = .returned (.bool false) ∧ Below w.heap.size w w' := by
  have hI : Hid (Calls Tryz.prog 202 #[.string marksB, .int .i32 r] w fun e w' => e = .returned (.int .i64 (-1)) ∧ Below w.heap.size w w') := by
    by_cases h2 : r = 65533
    · subst h2; exact indexRune_mark w
    · exact indexRune_high r h h2 h3 w
  go_enter Tryz.func201, Tryz.ntmps201
  generalize marksB = m at hI
  go_wp2_with (go_at_call 202; refine hI.out.mono ?_; rintro e w' ⟨rfl, hb⟩)
  go_ret
  exact ⟨rfl, hb⟩

end Go.Proofs.YtklchpdpooikdaaGreatDoor

namespace Go.Proofs.YtklchpdpooikdaaGreatDoor
open Go.RowKit Go.IntWalk

def markN (r : Nat) : Bool := [32, 39, 40, 41, 43, 44, 45, 46, 47, 58, 61, 63].contains r
def printN (r : Nat) : Bool := decide (65 ≤ r ∧ r ≤ 90) || decide (97 ≤ r ∧ r ≤ 122) || decide (48 ≤ r ∧ r ≤ 57) || markN r

set_option maxRecDepth 100000 in
theorem marks_index : ∀ r : Nat, r < 128 → decide (0 ≤ Lib.indexByte marksB.data.toList ((r : Int).toNat.toUInt8)) = markN r := by decide

theorem markN_high (r : Nat) (h : 128 ≤ r) : markN r = false := by
  unfold markN
  simp only [List.contains_eq_mem, List.mem_cons, List.not_mem_nil, or_false, decide_eq_false_iff_not]
  omega
theorem printN_high (r : Nat) (h : 128 ≤ r) : printN r = false := by
  unfold printN
  rw [markN_high r h, decide_eq_false (by omega), decide_eq_false (by omega), decide_eq_false (by omega)]
  rfl

set_option maxRecDepth 100000 in
set_option maxHeartbeats 1000000 in
theorem isPrintable_any (r : Nat) (hr : r ≤ 2147483647) (w : World) :
    Calls Tryz.prog 196 #[.int .i32 r] w fun e w' => e = .returned (.bool (printN r)) ∧ Below w.heap.size w w' := by
  have hC : Hid (∀ W : World, Calls Tryz.prog 201 #[.string ⟨#[32, 39, 40, 41, 43, 44, 45, 46, 47, 58, 61, 63]⟩, .int .i32 r] W fun e w' => e = .returned (.bool (markN r)) ∧ Below W.heap.size W w') := by
    intro W
    by_cases h : r < 128
    · refine (Tryz.strings_ContainsRune_ascii marksB r W (by omega) (by omega)).mono ?_
      rintro e w' ⟨rfl, rfl⟩
      exact ⟨by rw [marks_index r h], Below.refl _ _⟩
    · rw [markN_high r (by omega)]
      exact containsRune_high r (by omega) hr W
  have hP : Hid (printN r = (decide (65 ≤ r ∧ r ≤ 90) || decide (97 ≤ r ∧ r ≤ 122) || decide (48 ≤ r ∧ r ≤ 57) || markN r)) := rfl
  generalize markN r = M at hC hP
  generalize printN r = R at hP ⊢
  go_enter Tryz.func196, Tryz.ntmps196
  generalize (⟨#[32, 39, 40, 41, 43, 44, 45, 46, 47, 58, 61, 63]⟩ : ByteArray) = m at hC
  go_wp2_with (first | (go_at_call 201; refine (hC.out _).mono ?_; rintro e w' ⟨rfl, hb⟩) | go_in)
  all_goals go_ret
  all_goals refine ⟨?_, by first | exact hb | exact Below.refl _ _⟩
  all_goals rw [hP.out]
  all_goals show Ending.returned (Value.bool _) = Ending.returned (Value.bool _)
  all_goals congr 2
  all_goals rw [Bool.eq_iff_iff]
  all_goals cases M <;> simp <;> omega

theorem isIA5_any (r : Nat) (w : World) :
    Calls Tryz.prog 197 #[.int .i32 r] w fun e w' => e = .returned (.bool (decide (r < 128))) ∧ Below w.heap.size w w' := by
  go_enter Tryz.func197, Tryz.ntmps197
  go_wp2
  go_ret
  refine ⟨?_, Below.refl _ _⟩
  show Ending.returned (Value.bool _) = Ending.returned (Value.bool _)
  congr 2
  rw [Bool.eq_iff_iff]
  simp
  omega

end Go.Proofs.YtklchpdpooikdaaGreatDoor

namespace Go.Proofs.YtklchpdpooikdaaGreatDoor
open Go.RowKit Go.IntWalk

theorem all_step (p : Nat → Bool) (s : ByteArray) (pos : Nat) (h : pos < s.size) : (s.data.toList.drop pos).all (fun b => p b.toNat) = (p ((s[pos]'h).toNat) && (s.data.toList.drop (pos + 1)).all (fun b => p b.toNat)) := by
  have hl : pos < s.data.toList.length := by rw [Array.length_toList]; exact h
  rw [List.drop_eq_getElem_cons hl, List.all_cons]
  rfl

theorem all_end (p : Nat → Bool) (s : ByteArray) (pos : Nat) (h : ¬ pos < s.size) : (s.data.toList.drop pos).all (fun b => p b.toNat) = true := by
  rw [List.drop_of_length_le (by rw [Array.length_toList]; exact Nat.le_of_not_lt h)]
  rfl

def ia5N (r : Nat) : Bool := decide (r < 128)

theorem isIA5_n (r : Nat) (w : World) : Calls Tryz.prog 197 #[.int .i32 r] w fun e w' => e = .returned (.bool (ia5N r)) ∧ Below w.heap.size w w' := isIA5_any r w

theorem ia5N_high (r : Nat) (h : 128 ≤ r) : ia5N r = false := decide_eq_false (by omega)

set_option maxRecDepth 100000 in
set_option maxHeartbeats 1000000 in
theorem all_isPrintable (s : ByteArray) (hs : s.size ≤ 140737488355328) (w : World) :
    Calls Tryz.prog 195 #[.string s, .func (.func 196) #[] #[]] w fun e w' => e = .returned (.bool (s.data.toList.all (fun b => printN b.toNat))) ∧ Below w.heap.size w w' := by
  go_enter Tryz.func195, Tryz.ntmps195
  go_wp2
  go_loopw [] (fun wr => ∃ pos : Nat, wr.heap[w.heap.size]? = some (.stringIter s pos) ∧ Below w.heap.size w wr ∧ pos ≤ s.size ∧ Hid (s.data.toList.all (fun b => printN b.toNat) = (s.data.toList.drop pos).all (fun b => printN b.toNat))) (fun wr => s.size - wr.iterPos w.heap.size)
  case atStart => exact ⟨0, World.iter_heap _ _ _, below_iter _ _ _, by omega, by unfold Hid; simp⟩
  case round =>
    obtain ⟨pos, hit, hbw, hk, hE⟩ := hrel
    have hme : Hid (wr.iterPos w.heap.size = pos) := by unfold Hid World.iterPos; rw [hit]
    by_cases hp : pos < s.size
    · have hnx : ∀ ty, (Instr.next (.pointer (some ⟨w.heap.size, 0, none⟩)) true ty).run Tryz.prog wr = _ := fun ty => Lib.run_next_any_at wr w.heap.size s pos ty hit hp
      have st := hide (all_step (fun n => printN n) s pos hp)
      have hdl := decode_le s pos
      have hh := decode_high s pos hp
      have ha := decode_ascii s pos hp
      generalize (s[pos]'hp).toNat = b at st hh ha
      have hit2 : Hid (∀ p', (wr.iterAt w.heap.size s p').heap[w.heap.size]? = some (.stringIter s p')) := fun p' => Lib.iterAt_heap wr w.heap.size s pos p' hit
      have hbw2 : Hid (∀ p', Below w.heap.size w (wr.iterAt w.heap.size s p')) := fun p' => Lib.below_iterAt hbw (Nat.le_refl _) s p'
      have hsz : Hid (w.heap.size < wr.heap.size) := (Array.getElem?_eq_some_iff.1 hit).1
      by_cases hb : b < 128
      · rw [ha hb] at hnx
        have hC := hide (fun W => isPrintable_any b (by omega) W)
        have hnx2 : ∀ ty, (Instr.next (.pointer (some ⟨w.heap.size, 0, none⟩)) true ty).run Tryz.prog wr = .ok (.tuple #[.bool true, .int .i64 pos, .int .i32 b]) (wr.iterAt w.heap.size s (pos + 1)) := hnx
        have hi1 := hide (hit2.out (pos + 1))
        have hb1 := hide (hbw2.out (pos + 1))
        have hz1 : Hid (w.heap.size < (wr.iterAt w.heap.size s (pos + 1)).heap.size) := by unfold Hid; rw [Lib.iterAt_size]; exact hsz.out
        clear hnx hit2 hbw2 ha hh hdl hit hbw hsz
        generalize wr.iterAt w.heap.size s (pos + 1) = w1 at hnx2 hi1 hb1 hz1
        cases hq : printN b with
        | false =>
          have hF : Hid (s.data.toList.all (fun b => printN b.toNat) = false) := by unfold Hid; rw [hE.out, st.out, hq]; rfl
          rw [hq] at hC
          go_wp2_with (go_at_call 196; refine (hC.out _).mono ?_; rintro e w2 ⟨rfl, h2⟩)
          go_ret
          exact ⟨by rw [hF.out]; rfl, hb1.out.trans (h2.mono (Nat.le_of_lt hz1.out))⟩
        | true =>
          have hF : Hid (s.data.toList.all (fun b => printN b.toNat) = (s.data.toList.drop (pos + 1)).all (fun b => printN b.toNat)) := by unfold Hid; rw [hE.out, st.out, hq, Bool.true_and]
          rw [hq] at hC
          go_wp2_with (go_at_call 196; refine (hC.out _).mono ?_; rintro e w2 ⟨rfl, h2⟩)
          have hi2 := (h2.block _ hz1.out).trans hi1.out
          go_roundw
          case rel => exact ⟨pos + 1, hi2, hb1.out.trans (h2.mono (Nat.le_of_lt hz1.out)), by omega, hF⟩
          case measure => rw [hme.out]; unfold World.iterPos; rw [hi2]; show s.size - (pos + 1) < s.size - pos; omega
      · have hh2 := hh (by omega)
        have hF : Hid (s.data.toList.all (fun b => printN b.toNat) = false) := by unfold Hid; rw [hE.out, st.out, printN_high b (by omega)]; rfl
        have hgt := hh2.1
        clear hh ha
        generalize hdec : Utf8.decode s pos = D at hnx hdl hgt
        obtain ⟨b', wd⟩ := D
        have hgt : 128 ≤ b' := hgt
        have hq : printN b' = false := printN_high b' hgt
        have hdl : b' ≤ 2147483647 := hdl
        have hC := hide (fun W => (fun (b : Nat) (hle : b ≤ 2147483647) => (isPrintable_any b hle W : Calls Tryz.prog 196 #[.int .i32 b] W fun e w' => e = .returned (.bool (printN b)) ∧ Below W.heap.size W w')) b' hdl)
        rw [hq] at hC
        have hnx2 : ∀ ty, (Instr.next (.pointer (some ⟨w.heap.size, 0, none⟩)) true ty).run Tryz.prog wr = .ok (.tuple #[.bool true, .int .i64 pos, .int .i32 b']) (wr.iterAt w.heap.size s (pos + wd)) := hnx
        have hb1 := hide (hbw2.out (pos + wd))
        have hz1 : Hid (w.heap.size < (wr.iterAt w.heap.size s (pos + wd)).heap.size) := by unfold Hid; rw [Lib.iterAt_size]; exact hsz.out
        clear hnx hit2 hbw2 hit hbw hsz
        generalize wr.iterAt w.heap.size s (pos + wd) = w1 at hnx2 hb1 hz1
        go_wp2_with (go_at_call 196; refine (hC.out _).mono ?_; rintro e w2 ⟨rfl, h2⟩)
        go_ret
        exact ⟨by rw [hF.out]; rfl, hb1.out.trans (h2.mono (Nat.le_of_lt hz1.out))⟩
    · have hnx : ∀ ty, (Instr.next (.pointer (some ⟨w.heap.size, 0, none⟩)) true ty).run Tryz.prog wr = _ := fun ty => Lib.run_next_end_at wr w.heap.size s pos ty hit hp
      have hF : Hid (s.data.toList.all (fun b => printN b.toNat) = true) := by unfold Hid; rw [hE.out]; exact all_end (fun n => printN n) s pos hp
      go_wp2
      go_ret
      exact ⟨by rw [hF.out]; rfl, hbw⟩

set_option maxRecDepth 100000 in
set_option maxHeartbeats 1000000 in
theorem all_isIA5 (s : ByteArray) (hs : s.size ≤ 140737488355328) (w : World) :
    Calls Tryz.prog 195 #[.string s, .func (.func 197) #[] #[]] w fun e w' => e = .returned (.bool (s.data.toList.all (fun b => ia5N b.toNat))) ∧ Below w.heap.size w w' := by
  go_enter Tryz.func195, Tryz.ntmps195
  go_wp2
  go_loopw [] (fun wr => ∃ pos : Nat, wr.heap[w.heap.size]? = some (.stringIter s pos) ∧ Below w.heap.size w wr ∧ pos ≤ s.size ∧ Hid (s.data.toList.all (fun b => ia5N b.toNat) = (s.data.toList.drop pos).all (fun b => ia5N b.toNat))) (fun wr => s.size - wr.iterPos w.heap.size)
  case atStart => exact ⟨0, World.iter_heap _ _ _, below_iter _ _ _, by omega, by unfold Hid; simp⟩
  case round =>
    obtain ⟨pos, hit, hbw, hk, hE⟩ := hrel
    have hme : Hid (wr.iterPos w.heap.size = pos) := by unfold Hid World.iterPos; rw [hit]
    by_cases hp : pos < s.size
    · have hnx : ∀ ty, (Instr.next (.pointer (some ⟨w.heap.size, 0, none⟩)) true ty).run Tryz.prog wr = _ := fun ty => Lib.run_next_any_at wr w.heap.size s pos ty hit hp
      have st := hide (all_step (fun n => ia5N n) s pos hp)
      have hdl := decode_le s pos
      have hh := decode_high s pos hp
      have ha := decode_ascii s pos hp
      generalize (s[pos]'hp).toNat = b at st hh ha
      have hit2 : Hid (∀ p', (wr.iterAt w.heap.size s p').heap[w.heap.size]? = some (.stringIter s p')) := fun p' => Lib.iterAt_heap wr w.heap.size s pos p' hit
      have hbw2 : Hid (∀ p', Below w.heap.size w (wr.iterAt w.heap.size s p')) := fun p' => Lib.below_iterAt hbw (Nat.le_refl _) s p'
      have hsz : Hid (w.heap.size < wr.heap.size) := (Array.getElem?_eq_some_iff.1 hit).1
      by_cases hb : b < 128
      · rw [ha hb] at hnx
        have hC := hide (fun W => isIA5_n b W)
        have hnx2 : ∀ ty, (Instr.next (.pointer (some ⟨w.heap.size, 0, none⟩)) true ty).run Tryz.prog wr = .ok (.tuple #[.bool true, .int .i64 pos, .int .i32 b]) (wr.iterAt w.heap.size s (pos + 1)) := hnx
        have hi1 := hide (hit2.out (pos + 1))
        have hb1 := hide (hbw2.out (pos + 1))
        have hz1 : Hid (w.heap.size < (wr.iterAt w.heap.size s (pos + 1)).heap.size) := by unfold Hid; rw [Lib.iterAt_size]; exact hsz.out
        clear hnx hit2 hbw2 ha hh hdl hit hbw hsz
        generalize wr.iterAt w.heap.size s (pos + 1) = w1 at hnx2 hi1 hb1 hz1
        cases hq : ia5N b with
        | false =>
          have hF : Hid (s.data.toList.all (fun b => ia5N b.toNat) = false) := by unfold Hid; rw [hE.out, st.out, hq]; rfl
          rw [hq] at hC
          go_wp2_with (go_at_call 197; refine (hC.out _).mono ?_; rintro e w2 ⟨rfl, h2⟩)
          go_ret
          exact ⟨by rw [hF.out]; rfl, hb1.out.trans (h2.mono (Nat.le_of_lt hz1.out))⟩
        | true =>
          have hF : Hid (s.data.toList.all (fun b => ia5N b.toNat) = (s.data.toList.drop (pos + 1)).all (fun b => ia5N b.toNat)) := by unfold Hid; rw [hE.out, st.out, hq, Bool.true_and]
          rw [hq] at hC
          go_wp2_with (go_at_call 197; refine (hC.out _).mono ?_; rintro e w2 ⟨rfl, h2⟩)
          have hi2 := (h2.block _ hz1.out).trans hi1.out
          go_roundw
          case rel => exact ⟨pos + 1, hi2, hb1.out.trans (h2.mono (Nat.le_of_lt hz1.out)), by omega, hF⟩
          case measure => rw [hme.out]; unfold World.iterPos; rw [hi2]; show s.size - (pos + 1) < s.size - pos; omega
      · have hh2 := hh (by omega)
        have hF : Hid (s.data.toList.all (fun b => ia5N b.toNat) = false) := by unfold Hid; rw [hE.out, st.out, ia5N_high b (by omega)]; rfl
        have hgt := hh2.1
        clear hh ha
        generalize hdec : Utf8.decode s pos = D at hnx hdl hgt
        obtain ⟨b', wd⟩ := D
        have hgt : 128 ≤ b' := hgt
        have hq : ia5N b' = false := ia5N_high b' hgt
        have hdl : b' ≤ 2147483647 := hdl
        have hC := hide (fun W => (fun (b : Nat) (hle : b ≤ 2147483647) => (isIA5_n b W : Calls Tryz.prog 197 #[.int .i32 b] W fun e w' => e = .returned (.bool (ia5N b)) ∧ Below W.heap.size W w')) b' hdl)
        rw [hq] at hC
        have hnx2 : ∀ ty, (Instr.next (.pointer (some ⟨w.heap.size, 0, none⟩)) true ty).run Tryz.prog wr = .ok (.tuple #[.bool true, .int .i64 pos, .int .i32 b']) (wr.iterAt w.heap.size s (pos + wd)) := hnx
        have hb1 := hide (hbw2.out (pos + wd))
        have hz1 : Hid (w.heap.size < (wr.iterAt w.heap.size s (pos + wd)).heap.size) := by unfold Hid; rw [Lib.iterAt_size]; exact hsz.out
        clear hnx hit2 hbw2 hit hbw hsz
        generalize wr.iterAt w.heap.size s (pos + wd) = w1 at hnx2 hb1 hz1
        go_wp2_with (go_at_call 197; refine (hC.out _).mono ?_; rintro e w2 ⟨rfl, h2⟩)
        go_ret
        exact ⟨by rw [hF.out]; rfl, hb1.out.trans (h2.mono (Nat.le_of_lt hz1.out))⟩
    · have hnx : ∀ ty, (Instr.next (.pointer (some ⟨w.heap.size, 0, none⟩)) true ty).run Tryz.prog wr = _ := fun ty => Lib.run_next_end_at wr w.heap.size s pos ty hit hp
      have hF : Hid (s.data.toList.all (fun b => ia5N b.toNat) = true) := by unfold Hid; rw [hE.out]; exact all_end (fun n => ia5N n) s pos hp
      go_wp2
      go_ret
      exact ⟨by rw [hF.out]; rfl, hbw⟩

end Go.Proofs.YtklchpdpooikdaaGreatDoor

namespace Go.Proofs.YtklchpdpooikdaaGreatDoor
open Go.RowKit Go.IntWalk

def mayL (k : Int) (l : List UInt8) : Bool :=
  if 4096 < l.length then false else if k = 12 then decide (validL l = l.length) else if k = 19 then l.all (fun b => printN b.toNat) else if k = 22 then l.all (fun b => ia5N b.toNat) else false

def kindL (l : List UInt8) : Int × Int := if mayL 19 l = true then (19, 0) else if mayL 12 l = true then (12, 0) else (0, 50)

theorem size_len (s : ByteArray) : s.data.toList.length = s.size := by rw [Array.length_toList]; rfl

set_option maxRecDepth 100000 in
set_option maxHeartbeats 1000000 in
theorem may_any (k : Int) (s : ByteArray) (hs : s.size ≤ 140737488355328) (w : World) :
    Calls Tryz.prog 182 #[.int .i64 k, .string s] w fun e w' => e = .returned (.bool (mayL k s.data.toList)) ∧ Below w.heap.size w w' := by
  have hl := size_len s
  by_cases h0 : 4096 < s.size
  · have hm : Hid (mayL k s.data.toList = false) := by unfold Hid mayL; rw [if_pos (by omega)]
    have h0' : (4096 : Int) < (s.size : Int) := by omega
    go_enter Tryz.func182, Tryz.ntmps182
    go_wp2
    go_ret
    exact ⟨by rw [hm.out]; rfl, Below.refl _ _⟩
  have h0' : ¬ (4096 : Int) < (s.size : Int) := by omega
  by_cases h1 : k = 12
  · subst h1
    have hm : Hid (mayL 12 s.data.toList = ((validL s.data.toList : Int) == (s.size : Int))) := by
      unfold Hid mayL; rw [if_neg (by omega), if_pos rfl, hl, Bool.eq_iff_iff]; simp; omega
    have hV := hide (fun W => valid_any s hs W)
    generalize validL s.data.toList = V at hm hV
    go_enter Tryz.func182, Tryz.ntmps182
    go_wp2_with (go_at_call 194; refine (hV.out _).mono ?_; rintro e w2 ⟨rfl, h2⟩)
    go_ret
    exact ⟨by rw [hm.out]; rfl, h2⟩
  by_cases h2 : k = 19
  · subst h2
    have hm : Hid (mayL 19 s.data.toList = s.data.toList.all (fun b => printN b.toNat)) := by unfold Hid mayL; rw [if_neg (by omega), if_neg h1, if_pos rfl]
    have hV := hide (fun W => all_isPrintable s hs W)
    generalize s.data.toList.all (fun b => printN b.toNat) = V at hm hV
    go_enter Tryz.func182, Tryz.ntmps182
    go_wp2_with (go_at_call 195; refine (hV.out _).mono ?_; rintro e w2 ⟨rfl, h2⟩)
    go_ret
    exact ⟨by rw [hm.out]; rfl, h2⟩
  by_cases h3 : k = 22
  · subst h3
    have hm : Hid (mayL 22 s.data.toList = s.data.toList.all (fun b => ia5N b.toNat)) := by unfold Hid mayL; rw [if_neg (by omega), if_neg h1, if_neg h2, if_pos rfl]
    have hV := hide (fun W => all_isIA5 s hs W)
    generalize s.data.toList.all (fun b => ia5N b.toNat) = V at hm hV
    go_enter Tryz.func182, Tryz.ntmps182
    go_wp2_with (go_at_call 195; refine (hV.out _).mono ?_; rintro e w2 ⟨rfl, h2⟩)
    go_ret
    exact ⟨by rw [hm.out]; rfl, h2⟩
  · have hm : Hid (mayL k s.data.toList = false) := by unfold Hid mayL; rw [if_neg (by omega), if_neg h1, if_neg h2, if_neg h3]
    have q1 : (k == 12) = false := by simpa using h1
    have q2 : (k == 19) = false := by simpa using h2
    have q3 : (k == 22) = false := by simpa using h3
    clear h1 h2 h3
    go_enter Tryz.func182, Tryz.ntmps182
    go_wp2
    go_ret
    exact ⟨by rw [hm.out]; rfl, Below.refl _ _⟩

set_option maxRecDepth 100000 in
theorem kind_any (s : ByteArray) (hs : s.size ≤ 140737488355328) (w : World) :
    Calls Tryz.prog 173 #[.string s] w fun e w' => e = .returned (.tuple #[.int .i64 (kindL s.data.toList).1, .int .i64 (kindL s.data.toList).2]) ∧ Below w.heap.size w w' := by
  have m19 := hide (fun W => may_any 19 s hs W)
  have m12 := hide (fun W => may_any 12 s hs W)
  have hk : Hid (kindL s.data.toList = if mayL 19 s.data.toList = true then (19, 0) else if mayL 12 s.data.toList = true then (12, 0) else (0, 50)) := rfl
  generalize kindL s.data.toList = K at hk ⊢
  generalize mayL 19 s.data.toList = A at hk m19
  generalize mayL 12 s.data.toList = B at hk m12
  cases A with
  | true =>
    obtain rfl : K = (19, 0) := hk.out
    go_enter Tryz.func173, Tryz.ntmps173
    go_wp2_with (go_at_call_of 182 (Value.int .i64 19); refine (m19.out _).mono ?_; rintro e w2 ⟨rfl, h2⟩)
    refine bodyPost_ret (v := .tuple #[.int .i64 19, .int .i64 0]) (by simp [results, Tryz.results173, go_sem]) rfl ⟨rfl, h2⟩
  | false =>
    cases B with
    | true =>
      obtain rfl : K = (12, 0) := hk.out
      go_enter Tryz.func173, Tryz.ntmps173
      go_wp2_with (first | (go_at_call_of 182 (Value.int .i64 19); refine (m19.out _).mono ?_; rintro e w2 ⟨rfl, h2⟩) | (go_at_call_of 182 (Value.int .i64 12); refine (m12.out _).mono ?_; rintro e w3 ⟨rfl, h3⟩))
      refine bodyPost_ret (v := .tuple #[.int .i64 12, .int .i64 0]) (by simp [results, Tryz.results173, go_sem]) rfl ⟨rfl, h2.trans (h3.mono h2.size)⟩
    | false =>
      obtain rfl : K = (0, 50) := hk.out
      go_enter Tryz.func173, Tryz.ntmps173
      go_wp2_with (first | (go_at_call_of 182 (Value.int .i64 19); refine (m19.out _).mono ?_; rintro e w2 ⟨rfl, h2⟩) | (go_at_call_of 182 (Value.int .i64 12); refine (m12.out _).mono ?_; rintro e w3 ⟨rfl, h3⟩))
      refine bodyPost_ret (v := .tuple #[.int .i64 0, .int .i64 50]) (by simp [results, Tryz.results173, go_sem]) rfl ⟨rfl, h2.trans (h3.mono h2.size)⟩

end Go.Proofs.YtklchpdpooikdaaGreatDoor
