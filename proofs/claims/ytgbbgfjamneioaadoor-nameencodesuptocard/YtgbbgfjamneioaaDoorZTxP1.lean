/-
  Whether a PrintableString may have a character: the library's search among the marks.
-/
import Derived.Test.YtgbbgfjamneioaaDoorZTxV3
import Derived.Laws.Runes
import Derived.WalkMore
import Derived.Deep.QuietTactic
import Derived.BigQuiet
namespace Go.Proofs.YtgbbgfjamneioaaDoor
open Go.RowKit Go.IntWalk

/-- What a PrintableString may have beside letters and digits. -/
def marksB : ByteArray := ⟨#[32, 39, 40, 41, 43, 44, 45, 46, 47, 58, 61, 63]⟩

theorem marks_ascii : ∀ b ∈ marksB.data.toList, b.toNat < 128 := by decide

theorem index_none (s : ByteArray) (k e : Nat) (c : UInt8) (h : ∀ b ∈ s.data.toList, b.toNat < 128) (hc : 128 ≤ c.toNat) : Lib.indexByte (s.extract k e).data.toList c = -1 := by
  rw [← Lib.firstIdx_eq]
  exact firstIdx_ascii s k e c h hc

theorem decode_marks (pos : Nat) (h : pos < 12) : Utf8.decode marksB pos = ((marksB.get! pos).toNat, 1) ∧ (marksB.get! pos).toNat < 128 := by
  have : pos = 0 ∨ pos = 1 ∨ pos = 2 ∨ pos = 3 ∨ pos = 4 ∨ pos = 5 ∨ pos = 6 ∨ pos = 7 ∨ pos = 8 ∨ pos = 9 ∨ pos = 10 ∨ pos = 11 := by omega
  rcases this with rfl | rfl | rfl | rfl | rfl | rfl | rfl | rfl | rfl | rfl | rfl | rfl <;> decide

set_option maxRecDepth 100000 in
set_option maxHeartbeats 2000000 in
theorem indexRune_mark (w : World) :
    Calls Tryd.prog 105 #[.string marksB, .int .i32 65533] w fun e w' => e = .returned (.int .i64 (-1)) ∧ Below w.heap.size w w' := by
  have hz : marksB.size = 12 := rfl
  go_enter Tryd.func105, Tryd.ntmps105
  generalize hm : marksB = m
  have hz : m.size = 12 := by rw [← hm]; rfl
  go_wp2
  go_loopw [] (fun wr => ∃ pos : Nat, wr = w.iter m pos ∧ pos ≤ 12) (fun wr => 12 - wr.iterPos w.heap.size)
  case atStart => exact ⟨0, rfl, by omega⟩
  case round =>
    obtain ⟨pos, rfl, hk⟩ := hrel
    by_cases hp : pos < m.size
    · have hnx : ∀ ty, (Instr.next (.pointer (some ⟨w.heap.size, 0, none⟩)) true ty).run Tryd.prog (w.iter m pos) = _ := fun ty => run_next_any w m pos ty hp
      have dm := decode_marks pos (by omega)
      rw [hm] at dm
      rw [dm.1] at hnx
      have d2 := dm.2
      clear dm
      generalize (m.get! pos).toNat = b at d2 hnx
      have hq : ((b : Int) == 65533) = false := by simp; omega
      go_wp2
      go_roundw
      case rel => exact ⟨pos + 1, rfl, by omega⟩
      case measure => simp; omega
    · have hnx : ∀ ty, (Instr.next (.pointer (some ⟨w.heap.size, 0, none⟩)) true ty).run Tryd.prog (w.iter m pos) = _ := fun ty => run_next_end w m pos ty hp
      go_wp2
      go_ret
      exact ⟨rfl, below_iter _ _ _⟩

set_option maxRecDepth 1000000 in
set_option maxHeartbeats 4000000 in
theorem indexRune_high (r : Nat) (h : 128 ≤ r) (h2 : r ≠ 65533) (h3 : r ≤ 2147483647) (w : World) :
    Calls Tryd.prog 105 #[.string marksB, .int .i32 r] w fun e w' => e = .returned (.int .i64 (-1)) ∧ Below w.heap.size w w' := by
  have hz : marksB.size = 12 := rfl
  have hV := hide (fun W => Tryd.utf8_ValidRune (r : Int) W)
  have q1 : ¬ (r : Int) < 128 := by omega
  have q2 : ((r : Int) == 65533) = false := by simp; omega
  cases hv : Lib.validRune r with
  | false =>
    rw [hv] at hV
    go_enter Tryd.func105, Tryd.ntmps105
    generalize marksB = m
    go_wp2_with (go_at_call 116; refine (hV.out _).mono ?_; rintro e w' ⟨rfl, hw⟩; rw [hw])
    go_ret
    exact ⟨rfl, Below.refl _ _⟩
  | true =>
    rw [hv] at hV
    have ev : Utf8.valid (r : Int) = true := by rw [validRune_eq]; exact hv
    obtain ⟨f1, f2, f3⟩ := encode_facts r ev (by omega)
    have hI := hide (index_none marksB)
    have hA := marks_ascii
    go_enter Tryd.func105, Tryd.ntmps105
    generalize hm : marksB = m at hI hA
    have hz : m.size = 12 := by rw [← hm]; rfl
    have hcv : ∀ W, (convert 21 9 (.int .i32 (r : Int))).run Tryd.prog W = .ok (.string (Utf8.encode (r : Int))) W := fun W => run_convert_int_string W _ _ _ _ (by rw [Tryd.underlying21]; rfl) Tryd.underlying9
    generalize Utf8.encode (r : Int) = E at f1 f2 f3 hcv
    obtain ⟨L, hL⟩ : ∃ L, E.size = L + 1 := ⟨E.size - 1, by omega⟩
    have f3' : ∀ h : L < E.size, 128 ≤ (E[L]'h).toNat := fun h => by have := f3 (by omega); simpa [hL] using this
    have e1 : (E.size : Int) - 1 = (L : Int) := by omega
    have lE : L < E.size := by omega
    have lM : L < m.size := by omega
    have g1 := f3' lE
    have g2 : (m[L]'lM).toNat < 128 := hA _ (by rw [ByteArray.getElem_eq_getElem_data]; exact Array.getElem_mem_toList _)
    have hI2 : Hid (Lib.indexByte (m.extract (L + 1) m.size).data.toList (E[L]'lE) = -1) := hI.out (L + 1) m.size _ hA g1
    have hne : (((m[L]'lM).toNat : Int) == ((E[L]'lE).toNat : Int)) = false := by simp; omega
    have hX := hide (fun W => Tryd.strings_IndexByte (m.extract (L + 1) m.size) ((E[L]'lE).toNat : Int) W)
    have e2 : ((E[L]'lE).toNat : Int).toNat.toUInt8 = E[L]'lE := by simp
    rw [e2, hI2.out, hz] at hX
    clear hI hI2 f3 f3' hA
    go_wp2_with (go_at_call 116; refine (hV.out _).mono ?_; rintro e w' ⟨rfl, hw⟩; rw [hw])
    go_step3
    go_wp2
    go_loopw [9, 10] (fun i f wr => i = .int .i64 (L : Int) ∧ f = .int .i64 0 ∧ wr = w) (fun _ _ _ => 0)
    case atStart => exact ⟨rfl, rfl, rfl⟩
    case round =>
      obtain ⟨rfl, rfl, rfl⟩ := hrel
      have gw : IntKind.i64.wrap ((L : Int) + 1) = (L : Int) + 1 := i64_in _ (by omega)
      have sl : ∀ W, (Instr.slice 9 (.string m) (some (.int .i64 ((L : Int) + 1))) none none).run Tryd.prog W = .ok (.string (m.extract (L + 1) m.size)) W := fun W => by
        have h := run_slice_string_l (P := Tryd.prog) (w := W) 9 m Tryd.underlying9 .i64 ((L : Int) + 1) (by omega) (by omega)
        rwa [show ((L : Int) + 1).toNat = L + 1 by omega] at h
      clear hm e1 hcv hV f1 f2 ev hv hL
      go_wp2
      go_step3
      go_wp2
      go_quiet (fail)
      go_wp2
      go_quiet ((go_at_call 115; exact (hX.out _).mono fun _ _ ⟨he, hm⟩ => ⟨he, _, hm⟩))
      go_wp2
      show bodyPost Tryd.prog Tryd.f105 (fun e w' => e = .returned (.int .i64 (-1)) ∧ Below wr.heap.size wr w') Exit.ret _ _
      go_ret
      exact ⟨rfl, ⟨rfl, rfl, rfl, Nat.le_refl _, fun _ _ => rfl⟩⟩

set_option maxRecDepth 100000 in
theorem containsRune_high (r : Nat) (h : 128 ≤ r) (h3 : r ≤ 2147483647) (w : World) :
    Calls Tryd.prog 97 #[.string marksB, .int .i32 r] w fun e w' => e = .returned (.bool false) ∧ Below w.heap.size w w' := by
  have hI : Hid (Calls Tryd.prog 105 #[.string marksB, .int .i32 r] w fun e w' => e = .returned (.int .i64 (-1)) ∧ Below w.heap.size w w') := by
    by_cases h2 : r = 65533
    · subst h2; exact indexRune_mark w
    · exact indexRune_high r h h2 h3 w
  go_enter Tryd.func97, Tryd.ntmps97
  generalize marksB = m at hI
  go_wp2_with (go_at_call 105; refine hI.out.mono ?_; rintro e w' ⟨rfl, hb⟩)
  go_ret
  exact ⟨rfl, hb⟩

end Go.Proofs.YtgbbgfjamneioaaDoor
