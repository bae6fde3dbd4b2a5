/-
  TextNarrow answers true, and writes nothing that was there.
-/
import Derived.Test.YtjfemhonhnomcabTxL0
import Derived.Test.YtjfemhonhnomcabTxN
namespace Go.Proofs.Ytjfemhonhnomcab
open Go.RowKit Go.Shelf Go.IntWalk

theorem head_list (s : ByteArray) (n : Nat) : (s.extract 0 n).data.toList = s.data.toList.take n := by
  rw [ByteArray.data_extract, Array.toList_extract]
  simp

set_option maxRecDepth 100000 in
set_option maxHeartbeats 4000000 in
theorem textNarrow_walk (a b : ByteArray) (ha : a.size ≤ 1048576) (hb : b.size ≤ 1048576) (w : World) :
    Calls Try.prog 3 #[.string a, .string b] w fun e w' => e = .returned (.bool true) ∧ Below w.heap.size w w' := by
  have hB := Below.refl w.heap.size w
  have cm := hide (fun x W => may_any x a (by omega) W)
  have ck := hide (fun W => kind_any a (by omega) W)
  have c1 := hide (fun W => valid_any a (by omega) W)
  have c2 := hide (fun W => valid_any b (by omega) W)
  have hle := validL_le a.data.toList
  rw [size_len] at hle
  have hez : (a.extract 0 (validL a.data.toList)).size = validL a.data.toList := by rw [ByteArray.size_extract]; omega
  have c3 := hide (fun W => valid_any (a.extract 0 (validL a.data.toList)) (by rw [hez]; omega) W)
  have c4 := hide (fun W => valid_any (a.extract 0 (validL a.data.toList) ++ b) (by rw [ByteArray.size_append, hez]; omega) W)
  rw [head_list, valid_head] at c3
  rw [ByteArray.data_append, Array.toList_append, head_list, valid_join] at c4
  have sl : ∀ X, (Instr.slice 9 (.string a) none (some (.int .i64 (validL a.data.toList : Int))) none).run Try.prog X = .ok (.string (a.extract 0 (validL a.data.toList))) X := fun X => by
    have h := run_slice_string_h (P := Try.prog) (w := X) 9 a Try.underlying9 .i64 (validL a.data.toList : Int) (by omega) (by omega)
    rw [h]; simp
  have hkind := hide (kind_ok a.data.toList)
  rw [size_len] at hkind
  have h22 := may_22 a.data.toList
  have h12 := may_12 a.data.toList
  have nn : ¬ 9223372036854775807 < (a.extract 0 (validL a.data.toList)).size + b.size := by rw [hez]; omega
  have hUb := validL_le b.data.toList
  rw [size_len] at hUb
  clear hez
  generalize (kindL a.data.toList).1 = K1 at ck hkind
  generalize (kindL a.data.toList).2 = K2 at ck hkind
  generalize validL a.data.toList = V at c1 c3 c4 sl hle hkind nn
  generalize validL b.data.toList = U at c2 c4 hUb
  generalize a.extract 0 V = X at c3 c4 sl nn
  by_cases e19 : mayL 19 a.data.toList = true
  · have e22 := h22 e19
    have e12 := h12 e22
    clear h22 h12
    by_cases hk : K2 = 0
    · subst hk
      obtain ⟨hk1, hk2⟩ := hkind.out rfl
      subst hk2
      clear hkind hle
      go_enter Try.func3, Try.ntmps3
      go_wp2_with (first
        | (go_at_call 4; refine (cm.out _ _).mono ?_; rintro e w1 ⟨rfl, h1⟩; replace hB := hB.trans (h1.mono hB.size))
        | (go_at_call 5; refine (ck.out _).mono ?_; rintro e w1 ⟨rfl, h1⟩; replace hB := hB.trans (h1.mono hB.size))
        | (go_at_call_of 6 (Value.string X); refine (c3.out _).mono ?_; rintro e w1 ⟨rfl, h1⟩; replace hB := hB.trans (h1.mono hB.size))
        | (go_at_call_of 6 (Value.string (X ++ b)); refine (c4.out _).mono ?_; rintro e w1 ⟨rfl, h1⟩; replace hB := hB.trans (h1.mono hB.size))
        | (go_at_call_of 6 (Value.string a); refine (c1.out _).mono ?_; rintro e w1 ⟨rfl, h1⟩; replace hB := hB.trans (h1.mono hB.size))
        | (go_at_call_of 6 (Value.string b); refine (c2.out _).mono ?_; rintro e w1 ⟨rfl, h1⟩; replace hB := hB.trans (h1.mono hB.size))
        | (go_at_call 7; refine (works_any _).mono ?_; rintro e w3 ⟨rfl, h3⟩; replace hB := hB.trans (h3.mono hB.size)))
      go_ret
      exact ⟨rfl, hB⟩
    · have hk' : (K2 == 0) = false := by simpa using hk
      clear hkind hk
      have hle1 : ¬ (a.size : Int) < (V : Int) := by omega
      clear hle
      go_enter Try.func3, Try.ntmps3
      go_wp2_with (first
        | (go_at_call 4; refine (cm.out _ _).mono ?_; rintro e w1 ⟨rfl, h1⟩; replace hB := hB.trans (h1.mono hB.size))
        | (go_at_call 5; refine (ck.out _).mono ?_; rintro e w1 ⟨rfl, h1⟩; replace hB := hB.trans (h1.mono hB.size))
        | (go_at_call_of 6 (Value.string X); refine (c3.out _).mono ?_; rintro e w1 ⟨rfl, h1⟩; replace hB := hB.trans (h1.mono hB.size))
        | (go_at_call_of 6 (Value.string (X ++ b)); refine (c4.out _).mono ?_; rintro e w1 ⟨rfl, h1⟩; replace hB := hB.trans (h1.mono hB.size))
        | (go_at_call_of 6 (Value.string a); refine (c1.out _).mono ?_; rintro e w1 ⟨rfl, h1⟩; replace hB := hB.trans (h1.mono hB.size))
        | (go_at_call_of 6 (Value.string b); refine (c2.out _).mono ?_; rintro e w1 ⟨rfl, h1⟩; replace hB := hB.trans (h1.mono hB.size))
        | (go_at_call 7; refine (works_any _).mono ?_; rintro e w3 ⟨rfl, h3⟩; replace hB := hB.trans (h3.mono hB.size)))
      go_ret
      exact ⟨rfl, hB⟩
  · have e19 : mayL 19 a.data.toList = false := by simpa using e19
    by_cases e22 : mayL 22 a.data.toList = true
    · have e12 := h12 e22
      clear h22 h12
      by_cases hk : K2 = 0
      · subst hk
        obtain ⟨hk1, hk2⟩ := hkind.out rfl
        subst hk2
        clear hkind hle
        go_enter Try.func3, Try.ntmps3
        go_wp2_with (first
          | (go_at_call 4; refine (cm.out _ _).mono ?_; rintro e w1 ⟨rfl, h1⟩; replace hB := hB.trans (h1.mono hB.size))
          | (go_at_call 5; refine (ck.out _).mono ?_; rintro e w1 ⟨rfl, h1⟩; replace hB := hB.trans (h1.mono hB.size))
          | (go_at_call_of 6 (Value.string X); refine (c3.out _).mono ?_; rintro e w1 ⟨rfl, h1⟩; replace hB := hB.trans (h1.mono hB.size))
          | (go_at_call_of 6 (Value.string (X ++ b)); refine (c4.out _).mono ?_; rintro e w1 ⟨rfl, h1⟩; replace hB := hB.trans (h1.mono hB.size))
          | (go_at_call_of 6 (Value.string a); refine (c1.out _).mono ?_; rintro e w1 ⟨rfl, h1⟩; replace hB := hB.trans (h1.mono hB.size))
          | (go_at_call_of 6 (Value.string b); refine (c2.out _).mono ?_; rintro e w1 ⟨rfl, h1⟩; replace hB := hB.trans (h1.mono hB.size))
          | (go_at_call 7; refine (works_any _).mono ?_; rintro e w3 ⟨rfl, h3⟩; replace hB := hB.trans (h3.mono hB.size)))
        go_ret
        exact ⟨rfl, hB⟩
      · have hk' : (K2 == 0) = false := by simpa using hk
        clear hkind hk
        have hle1 : ¬ (a.size : Int) < (V : Int) := by omega
        clear hle
        go_enter Try.func3, Try.ntmps3
        go_wp2_with (first
          | (go_at_call 4; refine (cm.out _ _).mono ?_; rintro e w1 ⟨rfl, h1⟩; replace hB := hB.trans (h1.mono hB.size))
          | (go_at_call 5; refine (ck.out _).mono ?_; rintro e w1 ⟨rfl, h1⟩; replace hB := hB.trans (h1.mono hB.size))
          | (go_at_call_of 6 (Value.string X); refine (c3.out _).mono ?_; rintro e w1 ⟨rfl, h1⟩; replace hB := hB.trans (h1.mono hB.size))
          | (go_at_call_of 6 (Value.string (X ++ b)); refine (c4.out _).mono ?_; rintro e w1 ⟨rfl, h1⟩; replace hB := hB.trans (h1.mono hB.size))
          | (go_at_call_of 6 (Value.string a); refine (c1.out _).mono ?_; rintro e w1 ⟨rfl, h1⟩; replace hB := hB.trans (h1.mono hB.size))
          | (go_at_call_of 6 (Value.string b); refine (c2.out _).mono ?_; rintro e w1 ⟨rfl, h1⟩; replace hB := hB.trans (h1.mono hB.size))
          | (go_at_call 7; refine (works_any _).mono ?_; rintro e w3 ⟨rfl, h3⟩; replace hB := hB.trans (h3.mono hB.size)))
        go_ret
        exact ⟨rfl, hB⟩
    · have e22 : mayL 22 a.data.toList = false := by simpa using e22
      clear h22 h12
      by_cases hk : K2 = 0
      · subst hk
        obtain ⟨hk1, hk2⟩ := hkind.out rfl
        subst hk2
        clear hkind hle
        go_enter Try.func3, Try.ntmps3
        go_wp2_with (first
          | (go_at_call 4; refine (cm.out _ _).mono ?_; rintro e w1 ⟨rfl, h1⟩; replace hB := hB.trans (h1.mono hB.size))
          | (go_at_call 5; refine (ck.out _).mono ?_; rintro e w1 ⟨rfl, h1⟩; replace hB := hB.trans (h1.mono hB.size))
          | (go_at_call_of 6 (Value.string X); refine (c3.out _).mono ?_; rintro e w1 ⟨rfl, h1⟩; replace hB := hB.trans (h1.mono hB.size))
          | (go_at_call_of 6 (Value.string (X ++ b)); refine (c4.out _).mono ?_; rintro e w1 ⟨rfl, h1⟩; replace hB := hB.trans (h1.mono hB.size))
          | (go_at_call_of 6 (Value.string a); refine (c1.out _).mono ?_; rintro e w1 ⟨rfl, h1⟩; replace hB := hB.trans (h1.mono hB.size))
          | (go_at_call_of 6 (Value.string b); refine (c2.out _).mono ?_; rintro e w1 ⟨rfl, h1⟩; replace hB := hB.trans (h1.mono hB.size))
          | (go_at_call 7; refine (works_any _).mono ?_; rintro e w3 ⟨rfl, h3⟩; replace hB := hB.trans (h3.mono hB.size)))
        go_ret
        exact ⟨rfl, hB⟩
      · have hk' : (K2 == 0) = false := by simpa using hk
        clear hkind hk
        have hle1 : ¬ (a.size : Int) < (V : Int) := by omega
        clear hle
        go_enter Try.func3, Try.ntmps3
        go_wp2_with (first
          | (go_at_call 4; refine (cm.out _ _).mono ?_; rintro e w1 ⟨rfl, h1⟩; replace hB := hB.trans (h1.mono hB.size))
          | (go_at_call 5; refine (ck.out _).mono ?_; rintro e w1 ⟨rfl, h1⟩; replace hB := hB.trans (h1.mono hB.size))
          | (go_at_call_of 6 (Value.string X); refine (c3.out _).mono ?_; rintro e w1 ⟨rfl, h1⟩; replace hB := hB.trans (h1.mono hB.size))
          | (go_at_call_of 6 (Value.string (X ++ b)); refine (c4.out _).mono ?_; rintro e w1 ⟨rfl, h1⟩; replace hB := hB.trans (h1.mono hB.size))
          | (go_at_call_of 6 (Value.string a); refine (c1.out _).mono ?_; rintro e w1 ⟨rfl, h1⟩; replace hB := hB.trans (h1.mono hB.size))
          | (go_at_call_of 6 (Value.string b); refine (c2.out _).mono ?_; rintro e w1 ⟨rfl, h1⟩; replace hB := hB.trans (h1.mono hB.size))
          | (go_at_call 7; refine (works_any _).mono ?_; rintro e w3 ⟨rfl, h3⟩; replace hB := hB.trans (h3.mono hB.size)))
        go_ret
        exact ⟨rfl, hB⟩

end Go.Proofs.Ytjfemhonhnomcab
