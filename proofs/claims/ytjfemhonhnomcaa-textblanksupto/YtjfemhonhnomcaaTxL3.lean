/-
  TextBlanks answers true, and writes nothing that was there.
-/
import Derived.Test.YtjfemhonhnomcaaTxL2
namespace Go.Proofs.Ytjfemhonhnomcaa
open Go.RowKit Go.Shelf Go.IntWalk

/-- So many blanks. -/
def blanksB (n : Nat) : ByteArray := ⟨(List.replicate n 32).toArray⟩

theorem blanks_next (n : Nat) : blanksB n ++ ⟨#[32]⟩ = blanksB (n + 1) := by
  apply ByteArray.ext
  apply Array.ext'
  rw [ByteArray.data_append, Array.toList_append]
  show List.replicate n 32 ++ [32] = List.replicate (n + 1) 32
  rw [List.replicate_succ']

theorem fold_texts (x y : ByteArray) (h : wordsL x.data.toList = wordsL y.data.toList) : foldS x = foldS y := by
  unfold foldS
  rw [fold_words _ _ h]

theorem blanks_facts (m : Nat) (a b : ByteArray) :
    foldS (blanksB (m + 1) ++ a ++ blanksB (m + 1)) = foldS a ∧ foldS (a ++ blanksB (m + 1) ++ b) = foldS (a ++ ⟨#[32]⟩ ++ b) ∧ foldS (blanksB (m + 1)) = ⟨#[]⟩ ∧ (blanksB (m + 1)).size = m + 1 := by
  have hd : (blanksB (m + 1)).data.toList = List.replicate (m + 1) 32 := rfl
  refine ⟨fold_texts _ _ ?_, fold_texts _ _ ?_, ?_, ?_⟩
  · rw [ByteArray.data_append, ByteArray.data_append, Array.toList_append, Array.toList_append, hd, List.append_assoc, words_ahead, words_behind]
  · rw [ByteArray.data_append, ByteArray.data_append, Array.toList_append, Array.toList_append, ByteArray.data_append, ByteArray.data_append, Array.toList_append, Array.toList_append, hd, List.append_assoc, List.append_assoc, words_between]
    rfl
  · unfold foldS
    rw [hd]
    unfold foldL
    rw [words_blanks]
    rfl
  · rw [← size_len, hd, List.length_replicate]

set_option maxRecDepth 100000 in
set_option maxHeartbeats 2000000 in
theorem textBlanks_walk (a b : ByteArray) (x : Int) (ha : a.size ≤ 1048576) (hb : b.size ≤ 1048576) (w : World) :
    Calls Try.prog 8 #[.string a, .string b, .int .i64 x] w fun e w' => e = .returned (.bool true) ∧ Below w.heap.size w w' := by
  have hS := hide same_any
  have hT := hide fold_any
  have hB := Below.refl w.heap.size w
  go_enter Try.func8, Try.ntmps8
  go_wp2
  obtain ⟨m, hm, hm4⟩ : ∃ m : Nat, wrap64 ((IntKind.u64.wrap x).tmod 5) = (m : Int) ∧ m ≤ 4 := by
    have h0 : 0 ≤ IntKind.u64.wrap x := by rw [IntKind.wrap_u64]; omega
    rw [Int.tmod_eq_emod_of_nonneg h0]
    refine ⟨(IntKind.u64.wrap x % 5).toNat, ?_, by omega⟩
    unfold wrap64
    omega
  rw [hm]
  clear hm
  go_loop [7, 8] (fun s i => ∃ (k : Nat) (j : Int), k ≤ m + 1 ∧ s = .string (blanksB k) ∧ i = .int .i64 j ∧ Hid (j = (m : Int) - (k : Int))) (fun _ i => ((intOf i) + 1).toNat)
  case atStart => exact ⟨0, _, by omega, rfl, rfl, by unfold Hid; simp⟩
  case round =>
    obtain ⟨k, j, hk, rfl, rfl, hj⟩ := hrel
    by_cases hlt : k ≤ m
    · have hI : (0 : Int) ≤ j := by have := hj.out; omega
      have hI2 : j ≤ 4 := by have := hj.out; omega
      have hn := blanks_next k
      have hnb : ¬ 9223372036854775807 < (blanksB k).size + 1 := by have h : (blanksB k).size = k := by { rw [← size_len]; exact List.length_replicate }; omega
      go_wp2
      exact ⟨⟨k + 1, _, by omega, rfl, rfl, by unfold Hid; have := hj.out; omega⟩, by simp [intOf]; omega⟩
    · obtain rfl : k = m + 1 := by omega
      have hI : j < 0 := by have := hj.out; omega
      clear hj
      obtain ⟨e1, e2, e3, z0⟩ := blanks_facts m a b
      generalize hSS : blanksB (m + 1) = S at e1 e2 e3 z0
      clear hSS
      have z5 : S.size ≤ 5 := by omega
      have n1 : ¬ 9223372036854775807 < S.size + a.size := by omega
      have n2 : ¬ 9223372036854775807 < S.size + a.size + S.size := by omega
      have n3 : ¬ 9223372036854775807 < a.size + S.size := by omega
      have n4 : ¬ 9223372036854775807 < a.size + S.size + b.size := by omega
      have n5 : ¬ 9223372036854775807 < a.size + 1 := by omega
      have n6 : ¬ 9223372036854775807 < a.size + 1 + b.size := by omega
      have z32 : (⟨#[32]⟩ : ByteArray).size = 1 := rfl
      have c1 := hide (fun W => same_any (S ++ a ++ S) a (by rw [ByteArray.size_append, ByteArray.size_append]; omega) (by omega) W)
      have c2 := hide (fun W => same_any (a ++ S ++ b) (a ++ ⟨#[32]⟩ ++ b) (by rw [ByteArray.size_append, ByteArray.size_append]; omega) (by rw [ByteArray.size_append, ByteArray.size_append, z32]; omega) W)
      rw [decide_eq_true e1] at c1
      rw [decide_eq_true e2] at c2
      clear z0 z32 e1 e2
      go_wp2_with (first
        | (go_at_call_of 18 (Value.string (S ++ a ++ S)); refine (c1.out _).mono ?_; rintro e w1 ⟨rfl, h1⟩; replace hB := hB.trans (h1.mono hB.size))
        | (go_at_call_of 18 (Value.string (a ++ S ++ b)); refine (c2.out _).mono ?_; rintro e w1 ⟨rfl, h1⟩; replace hB := hB.trans (h1.mono hB.size))
        | (go_at_call 16; refine (hT.out _ (by omega) _).mono ?_; rintro e w1 ⟨rfl, h1⟩; replace hB := hB.trans (h1.mono hB.size))
        | (go_at_call 11; refine (works_any _).mono ?_; rintro e w3 ⟨rfl, h3⟩; replace hB := hB.trans (h3.mono hB.size)))
      go_ret
      exact ⟨rfl, hB⟩

end Go.Proofs.Ytjfemhonhnomcaa
