/-
  Valid, both the document's and the program's: how far a text is UTF-8.
  Whether a PrintableString may have a character: the library's search among the marks.
  Which characters a PrintableString and an IA5String may have; a text all of whose characters may be there.
-/
import Derived.Test.YtklchpdpooikdaaGreatDoorXTxV2
import Derived.Test.YtklchpdpooikdaaGreatDoorXShelfAll
import Derived.Lib.OthersKept
import Derived.Laws.Runes
import Derived.WalkMore
import Derived.Deep.QuietTactic
import Derived.BigQuiet
namespace Go.Proofs.YtklchpdpooikdaaGreatDoor
open Go.RowKit Go.IntWalk

set_option maxRecDepth 100000 in
set_option maxHeartbeats 1000000 in
theorem refValid_any (s : ByteArray) (hs : s.size ≤ 140737488355328) (w : World) :
    Calls Tryz.prog 156 #[.string s] w fun e w' => e = .returned (.int .i64 (validL s.data.toList)) ∧ w' = w := by
  go_enter Tryz.func156, Tryz.ntmps156
  go_wp2
  go_loop [3] (fun i => ∃ k : Nat, i = .int .i64 k ∧ k ≤ s.size ∧ Hid (validL s.data.toList = k + validL (s.data.toList.drop k))) (fun i => s.size - (intOf i).toNat)
  case atStart => exact ⟨0, rfl, by omega, by unfold Hid; simp⟩
  case round =>
    obtain ⟨k, rfl, hk, hE⟩ := hrel
    by_cases hlt : k < s.size
    · have hC := hide (fun W => character_any s k hs hlt W)
      have hl := len_at s k
      have hle := charL_le (s.data.toList.drop k) (by omega)
      have st := hide (validL_stop (s.data.toList.drop k))
      have sp := hide (validL_step (s.data.toList.drop k) (by omega))
      rw [List.drop_drop] at sp
      generalize hc : charL (s.data.toList.drop k) = c at hC hle st sp
      clear hc
      by_cases h0 : c = 0
      · subst h0
        have hz : Hid (validL s.data.toList = k) := by unfold Hid; rw [hE.out, st.out (.inr rfl)]; rfl
        have hC : Hid (∀ W, Calls Tryz.prog 175 #[.string s, .int .i64 k] W fun e w' => e = .returned (.int .i64 0) ∧ w' = W) := hC
        go_wp2_with (go_at_call 175; refine (hC.out _).mono ?_; rintro e w' ⟨rfl, rfl⟩)
        go_ret
        exact ⟨by rw [hz.out]; rfl, rfl⟩
      · have hn : Hid (validL s.data.toList = (k + c : Nat) + validL (s.data.toList.drop (k + c))) := by unfold Hid; rw [hE.out, sp.out h0]; omega
        have hq : ((c : Int) == 0) = false := by simpa using h0
        go_wp2_with (go_at_call 175; refine (hC.out _).mono ?_; rintro e w' ⟨rfl, rfl⟩)
        exact ⟨⟨k + c, by simp, by omega, hn⟩, by simp [intOf]; omega⟩
    · obtain rfl : k = s.size := by omega
      have hz : Hid (validL s.data.toList = s.size) := by unfold Hid; rw [hE.out, validL_stop _ (.inl (by rw [len_at]; omega))]; rfl
      go_wp2
      go_ret
      exact ⟨by rw [hz.out]; rfl, rfl⟩

theorem prefix_mark (l : List UInt8) : Lib.hasPrefix l [239, 191, 189] = decide (bt l 0 = 239 ∧ bt l 1 = 191 ∧ bt l 2 = 189 ∧ 3 ≤ l.length) := by
  have e : ∀ (x y : UInt8), (y == x) = decide (x.toNat = y.toNat) := fun x y => by
    by_cases h : x = y
    · subst h; simp
    · have h2 : ¬ x.toNat = y.toNat := fun h3 => h (UInt8.toNat_inj.1 h3)
      have h4 : (y == x) = false := by rw [beq_eq_false_iff_ne]; exact fun h5 => h h5.symm
      rw [h4, decide_eq_false h2]
  match l with
  | [] => simp [Lib.hasPrefix, bt]
  | [a] => simp [Lib.hasPrefix, bt, List.isPrefixOf]
  | [a, b] => simp [Lib.hasPrefix, bt, List.isPrefixOf]
  | a :: b :: c :: r => simp [Lib.hasPrefix, bt, List.isPrefixOf, e, Bool.decide_and]

theorem extract_end (s : ByteArray) (k : Nat) : (s.extract k s.size).data.toList = s.data.toList.drop k := by
  rw [ByteArray.data_extract, Array.toList_extract]
  show (s.data.toList.drop k).take (s.size - k) = _
  rw [List.take_of_length_le]
  rw [List.length_drop, Array.length_toList]
  exact Nat.le_refl _

theorem below_iter (w : World) (s : ByteArray) (p : Nat) : Below w.heap.size w (w.iter s p) := (Below.refl _ w).alloc (Nat.le_refl _) _

set_option maxRecDepth 100000 in
set_option maxHeartbeats 1000000 in
theorem valid_any (s : ByteArray) (hs : s.size ≤ 140737488355328) (w : World) :
    Calls Tryz.prog 194 #[.string s] w fun e w' => e = .returned (.int .i64 (validL s.data.toList)) ∧ Below w.heap.size w w' := by
  go_enter Tryz.func194, Tryz.ntmps194
  go_wp2
  go_loopw [] (fun wr => ∃ pos : Nat, wr = w.iter s pos ∧ pos ≤ s.size ∧ Hid (validL s.data.toList = pos + validL (s.data.toList.drop pos))) (fun wr => s.size - wr.iterPos w.heap.size)
  case atStart => exact ⟨0, rfl, by omega, by unfold Hid; simp⟩
  case round =>
    obtain ⟨pos, rfl, hk, hE⟩ := hrel
    by_cases hp : pos < s.size
    · have hnx : ∀ ty, (Instr.next (.pointer (some ⟨w.heap.size, 0, none⟩)) true ty).run Tryz.prog (w.iter s pos) = _ := fun ty => run_next_any w s pos ty hp
      have dc := decode_char s pos hp
      have hl := len_at s pos
      have hle := charL_le (s.data.toList.drop pos) (by omega)
      have st := hide (validL_stop (s.data.toList.drop pos))
      have sp := hide (validL_step (s.data.toList.drop pos) (by omega))
      have mk := hide (charL_mark (s.data.toList.drop pos))
      have hP := hide (fun W => Tryz.strings_HasPrefix (s.extract pos s.size) ⟨#[239, 191, 189]⟩ W)
      have e1 : (⟨#[239, 191, 189]⟩ : ByteArray).data.toList = [239, 191, 189] := rfl
      rw [extract_end, e1, prefix_mark] at hP
      rw [List.drop_drop] at sp
      rcases dc with ⟨h0, hd⟩ | ⟨h0, hw, hm⟩
      · have hz : Hid (validL s.data.toList = pos) := by unfold Hid; rw [hE.out, st.out (.inr h0)]; rfl
        have hf := decide_eq_false (mk.out h0)
        rw [hf] at hP
        rw [hd] at hnx
        clear hf mk st sp hd h0 hE hle hl
        go_wp2_with (go_at_call 200; refine (hP.out _).mono ?_; rintro e w' ⟨rfl, hw⟩; rw [hw])
        go_ret
        exact ⟨by rw [hz.out]; rfl, below_iter _ _ _⟩
      · have hn : Hid (validL s.data.toList = (pos + charL (s.data.toList.drop pos) : Nat) + validL (s.data.toList.drop (pos + charL (s.data.toList.drop pos)))) := by unfold Hid; rw [hE.out, sp.out h0]; omega
        rw [hw] at hnx
        clear mk st sp hE hw
        generalize charL (s.data.toList.drop pos) = c at hnx hn h0 hle
        generalize (Utf8.decode s pos).1 = r at hnx hm
        by_cases hr : r = 65533
        · have hf := decide_eq_true (hm hr)
          rw [hf] at hP
          subst hr
          clear hf hm
          go_wp2_with (go_at_call 200; refine (hP.out _).mono ?_; rintro e w' ⟨rfl, hw⟩; rw [hw])
          go_roundw
          case rel => exact ⟨pos + c, rfl, by omega, hn⟩
          case measure => simp; omega
        · have hq : ((r : Int) == 65533) = false := by simp; omega
          clear hm
          go_wp2_with (go_at_call 200; refine (hP.out _).mono ?_; rintro e w' ⟨rfl, hw⟩; rw [hw])
          go_roundw
          case rel => exact ⟨pos + c, rfl, by omega, hn⟩
          case measure => simp; omega
    · have hnx : ∀ ty, (Instr.next (.pointer (some ⟨w.heap.size, 0, none⟩)) true ty).run Tryz.prog (w.iter s pos) = _ := fun ty => run_next_end w s pos ty hp
      obtain rfl : pos = s.size := by omega
      have hz : Hid (validL s.data.toList = s.size) := by unfold Hid; rw [hE.out, validL_stop _ (.inl (by rw [len_at]; omega))]; rfl
      go_wp2
      go_ret
      exact ⟨by rw [hz.out]; rfl, below_iter _ _ _⟩

end Go.Proofs.YtklchpdpooikdaaGreatDoor

namespace Go.Proofs.YtklchpdpooikdaaGreatDoor
open Go.RowKit Go.IntWalk

/-- What a PrintableString may have beside letters and digits. -/
def marksB : ByteArray := ⟨#[32, 39, 40, 41, 43, 44, 45, 46, 47, 58, 61, 63]⟩

theorem marks_ascii : ∀ b ∈ marksB.data.toList, b.toNat < 128 := by decide

theorem index_none (s : ByteArray) (k e : Nat) (c : UInt8) (h : ∀ b ∈ s.data.toList, b.toNat < 128) (hc : 128 ≤ c.toNat) : Lib.indexByte (s.extract k e).data.toList c = -1 := by
  rw [← Lib.firstIdx_eq]
  exact firstIdx_ascii s k e c h hc

theorem decode_marks (pos : Nat) (h : pos < 12) : Utf8.decode marksB pos = ((marksB.get! pos).toNat, 1) ∧ (marksB.get! pos).toNat < 128 := by
  have : pos = 0 ∨ pos = 1 ∨ pos = 2 ∨ pos = 3 ∨ pos = 4 ∨ pos = 5 ∨ pos = 6 ∨ pos = 7 ∨ pos = 8 ∨ pos = 9 ∨ pos = 10 ∨ pos = 11 := by omega
  rcases this with rfl | rfl | rfl | rfl | rfl | rfl | rfl | rfl | rfl | rfl | rfl | rfl <;> decide

set_option maxRecDepth 100000 in
set_option maxHeartbeats 2000000 in
theorem indexRune_mark (w : World) :
    Calls Tryz.prog 202 #[.string marksB, .int .i32 65533] w fun e w' => e = .returned (.int .i64 (-1)) ∧ Below w.heap.size w w' := by
  have hz : marksB.size = 12 := rfl
  go_enter Tryz.func202, Tryz.ntmps202
  generalize hm : marksB = m
  have hz : m.size = 12 := by rw [← hm]; rfl
  go_wp2
  go_loopw [] (fun wr => ∃ pos : Nat, wr = w.iter m pos ∧ pos ≤ 12) (fun wr => 12 - wr.iterPos w.heap.size)
  case atStart => exact ⟨0, rfl, by omega⟩
  case round =>
    obtain ⟨pos, rfl, hk⟩ := hrel
    by_cases hp : pos < m.size
    · have hnx : ∀ ty, (Instr.next (.pointer (some ⟨w.heap.size, 0, none⟩)) true ty).run Tryz.prog (w.iter m pos) = _ := fun ty => run_next_any w m pos ty hp
      have dm := decode_marks pos (by omega)
      rw [hm] at dm
      rw [dm.1] at hnx
      have d2 := dm.2
      clear dm
      generalize (m.get! pos).toNat = b at d2 hnx
      have hq : ((b : Int) == 65533) = false := by simp; omega
      go_wp2
      go_roundw
      case rel => exact ⟨pos + 1, rfl, by omega⟩
      case measure => simp; omega
    · have hnx : ∀ ty, (Instr.next (.pointer (some ⟨w.heap.size, 0, none⟩)) true ty).run Tryz.prog (w.iter m pos) = _ := fun ty => run_next_end w m pos ty hp
      go_wp2
      go_ret
      exact ⟨rfl, below_iter _ _ _⟩

set_option maxRecDepth 1000000 in
set_option maxHeartbeats 4000000 in
theorem indexRune_high (r : Nat) (h : 128 ≤ r) (h2 : r ≠ 65533) (h3 : r ≤ 2147483647) (w : World) :
    Calls Tryz.prog 202 #[.string marksB, .int .i32 r] w fun e w' => e = .returned (.int .i64 (-1)) ∧ Below w.heap.size w w' := by
  have hz : marksB.size = 12 := rfl
  have hV := hide (fun W => Tryz.utf8_ValidRune (r : Int) W)
  have q1 : ¬ (r : Int) < 128 := by omega
  have q2 : ((r : Int) == 65533) = false := by simp; omega
  cases hv : Lib.validRune r with
  | false =>
    rw [hv] at hV
    go_enter Tryz.func202, Tryz.ntmps202
    generalize marksB = m
    go_wp2_with (go_at_call 203; refine (hV.out _).mono ?_; rintro e w' ⟨rfl, hw⟩; rw [hw])
    go_ret
    exact ⟨rfl, Below.refl _ _⟩
  | true =>
    rw [hv] at hV
    have ev : Utf8.valid (r : Int) = true := by rw [validRune_eq]; exact hv
    obtain ⟨f1, f2, f3⟩ := encode_facts r ev (by omega)
    have hI := hide (index_none marksB)
    have hA := marks_ascii
    go_enter Tryz.func202, Tryz.ntmps202
    generalize hm : marksB = m at hI hA
    have hz : m.size = 12 := by rw [← hm]; rfl
    have hcv : ∀ W, (convert 21 9 (.int .i32 (r : Int))).run Tryz.prog W = .ok (.string (Utf8.encode (r : Int))) W := fun W => run_convert_int_string W _ _ _ _ (by rw [Tryz.underlying21]; rfl) Tryz.underlying9
    generalize Utf8.encode (r : Int) = E at f1 f2 f3 hcv
    obtain ⟨L, hL⟩ : ∃ L, E.size = L + 1 := ⟨E.size - 1, by omega⟩
    have f3' : ∀ h : L < E.size, 128 ≤ (E[L]'h).toNat := fun h => by have := f3 (by omega); simpa [hL] using this
    have e1 : (E.size : Int) - 1 = (L : Int) := by omega
    have lE : L < E.size := by omega
    have lM : L < m.size := by omega
    have g1 := f3' lE
    have g2 : (m[L]'lM).toNat < 128 := hA _ (by rw [ByteArray.getElem_eq_getElem_data]; exact Array.getElem_mem_toList _)
    have hI2 : Hid (Lib.indexByte (m.extract (L + 1) m.size).data.toList (E[L]'lE) = -1) := hI.out (L + 1) m.size _ hA g1
    have hne : (((m[L]'lM).toNat : Int) == ((E[L]'lE).toNat : Int)) = false := by simp; omega
    have hX := hide (fun W => Tryz.strings_IndexByte (m.extract (L + 1) m.size) ((E[L]'lE).toNat : Int) W)
    have e2 : ((E[L]'lE).toNat : Int).toNat.toUInt8 = E[L]'lE := by simp
    rw [e2, hI2.out, hz] at hX
    clear hI hI2 f3 f3' hA
    go_wp2_with (go_at_call 203; refine (hV.out _).mono ?_; rintro e w' ⟨rfl, hw⟩; rw [hw])
    go_step3
    go_wp2
    go_loopw [9, 10] (fun i f wr => i = .int .i64 (L : Int) ∧ f = .int .i64 0 ∧ wr = w) (fun _ _ _ => 0)
    case atStart => exact ⟨rfl, rfl, rfl⟩
    case round =>
      obtain ⟨rfl, rfl, rfl⟩ := hrel
      have gw : IntKind.i64.wrap ((L : Int) + 1) = (L : Int) + 1 := i64_in _ (by omega)
      have sl : ∀ W, (Instr.slice 9 (.string m) (some (.int .i64 ((L : Int) + 1))) none none).run Tryz.prog W = .ok (.string (m.extract (L + 1) m.size)) W := fun W => by
        have h := run_slice_string_l (P := Tryz.prog) (w := W) 9 m Tryz.underlying9 .i64 ((L : Int) + 1) (by omega) (by omega)
        rwa [show ((L : Int) + 1).toNat = L + 1 by omega] at h
      clear hm e1 hcv hV f1 f2 ev hv hL
      go_wp2
      go_step3
      go_wp2
      go_quiet (fail)
      go_wp2
      go_quiet ((go_at_call 115; exact (hX.out _).mono fun _ _ ⟨he, hm⟩ => ⟨he, _, hm⟩))
      go_wp2
      show bodyPost Tryz.prog Tryz.f202 (fun e w' => e = .returned (.int .i64 (-1)) ∧ Below wr.heap.size wr w') Exit.ret _ _
      go_ret
      exact ⟨rfl, ⟨rfl, rfl, rfl, Nat.le_refl _, fun _ _ => rfl⟩⟩

set_option maxRecDepth 100000 in
theorem containsRune_high (r : Nat) (h : 128 ≤ r) (h3 : r ≤ 2147483647) (w : World) :
    Calls Tryz.prog 201 #[.string marksB, .int .i32 r] w fun e w' => e = .returned (.bool false) ∧ Below w.heap.size w w' := by
  have hI : Hid (Calls Tryz.prog 202 #[.string marksB, .int .i32 r] w fun e w' => e = .returned (.int .i64 (-1)) ∧ Below w.heap.size w w') := by
    by_cases h2 : r = 65533
    · subst h2; exact indexRune_mark w
    · exact indexRune_high r h h2 h3 w
  go_enter Tryz.func201, Tryz.ntmps201
  generalize marksB = m at hI
  go_wp2_with (go_at_call 202; refine hI.out.mono ?_; rintro e w' ⟨rfl, hb⟩)
  go_ret
  exact ⟨rfl, hb⟩

end Go.Proofs.YtklchpdpooikdaaGreatDoor

namespace Go.Proofs.YtklchpdpooikdaaGreatDoor
open Go.RowKit Go.IntWalk

/-- Is a number one of the marks? -/
def markN (r : Nat) : Bool := [32, 39, 40, 41, 43, 44, 45, 46, 47, 58, 61, 63].contains r
/-- May a PrintableString have a character? -/
def printN (r : Nat) : Bool := decide (65 ≤ r ∧ r ≤ 90) || decide (97 ≤ r ∧ r ≤ 122) || decide (48 ≤ r ∧ r ≤ 57) || markN r

set_option maxRecDepth 100000 in
theorem marks_index : ∀ r : Nat, r < 128 → decide (0 ≤ Lib.indexByte marksB.data.toList ((r : Int).toNat.toUInt8)) = markN r := by decide

theorem markN_high (r : Nat) (h : 128 ≤ r) : markN r = false := by
  unfold markN
  simp only [List.contains_eq_mem, List.mem_cons, List.not_mem_nil, or_false, decide_eq_false_iff_not]
  omega
theorem printN_high (r : Nat) (h : 128 ≤ r) : printN r = false := by
  unfold printN
  rw [markN_high r h, decide_eq_false (by omega), decide_eq_false (by omega), decide_eq_false (by omega)]
  rfl

set_option maxRecDepth 100000 in
set_option maxHeartbeats 1000000 in
theorem isPrintable_any (r : Nat) (hr : r ≤ 2147483647) (w : World) :
    Calls Tryz.prog 196 #[.int .i32 r] w fun e w' => e = .returned (.bool (printN r)) ∧ Below w.heap.size w w' := by
  have hC : Hid (∀ W : World, Calls Tryz.prog 201 #[.string ⟨#[32, 39, 40, 41, 43, 44, 45, 46, 47, 58, 61, 63]⟩, .int .i32 r] W fun e w' => e = .returned (.bool (markN r)) ∧ Below W.heap.size W w') := by
    intro W
    by_cases h : r < 128
    · refine (Tryz.strings_ContainsRune_ascii marksB r W (by omega) (by omega)).mono ?_
      rintro e w' ⟨rfl, rfl⟩
      exact ⟨by rw [marks_index r h], Below.refl _ _⟩
    · rw [markN_high r (by omega)]
      exact containsRune_high r (by omega) hr W
  have hP : Hid (printN r = (decide (65 ≤ r ∧ r ≤ 90) || decide (97 ≤ r ∧ r ≤ 122) || decide (48 ≤ r ∧ r ≤ 57) || markN r)) := rfl
  generalize markN r = M at hC hP
  generalize printN r = R at hP ⊢
  go_enter Tryz.func196, Tryz.ntmps196
  generalize (⟨#[32, 39, 40, 41, 43, 44, 45, 46, 47, 58, 61, 63]⟩ : ByteArray) = m at hC
  go_wp2_with (first | (go_at_call 201; refine (hC.out _).mono ?_; rintro e w' ⟨rfl, hb⟩) | go_in)
  all_goals go_ret
  all_goals refine ⟨?_, by first | exact hb | exact Below.refl _ _⟩
  all_goals rw [hP.out]
  all_goals show Ending.returned (Value.bool _) = Ending.returned (Value.bool _)
  all_goals congr 2
  all_goals rw [Bool.eq_iff_iff]
  all_goals cases M <;> simp <;> omega

theorem isIA5_any (r : Nat) (w : World) :
    Calls Tryz.prog 197 #[.int .i32 r] w fun e w' => e = .returned (.bool (decide (r < 128))) ∧ Below w.heap.size w w' := by
  go_enter Tryz.func197, Tryz.ntmps197
  go_wp2
  go_ret
  refine ⟨?_, Below.refl _ _⟩
  show Ending.returned (Value.bool _) = Ending.returned (Value.bool _)
  congr 2
  rw [Bool.eq_iff_iff]
  simp
  omega

end Go.Proofs.YtklchpdpooikdaaGreatDoor
