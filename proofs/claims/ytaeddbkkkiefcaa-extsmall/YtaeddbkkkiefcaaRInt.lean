/-
  The reference's low and Int: the same bytes as num.Int's.
-/
import Derived.Test.YtaeddbkkkiefcaaNumM
namespace Go.Proofs.Ytaeddbkkkiefcaa
open Go.RowKit Go.IntWalk

theorem lowS_at (n : Int) : ∀ (k j : Nat), j < k → (lowS n k).getD j 0 = n / 256 ^ (k - 1 - j) % 256
  | 0, j, h => by omega
  | k + 1, j, h => by
    rw [lowS_cons]
    cases j with
    | zero => simp [List.getD]
    | succ j =>
      have ih := lowS_at n k j (by omega)
      rw [show k + 1 - 1 - (j + 1) = k - 1 - j by omega, ← ih]
      simp [List.getD]

theorem lowS_take (n : Int) (k j : Nat) (h : j < k) : (lowS n k).take (j + 1) = (lowS n k).take j ++ [n / 256 ^ (k - 1 - j) % 256] := by
  rw [take_nextI _ j (by rw [lowS_len]; exact h), lowS_at n k j h]

theorem own_shape {w : World} {base : Nat} {v : Value} {xs : List Int} (h : OwnB w base v xs) : ∃ ao c, v = .slice ao xs.length c := by
  rcases h.split with ⟨rfl, rfl⟩ | ⟨g, c, rfl, _⟩
  · exact ⟨none, 0, rfl⟩
  · exact ⟨_, c, rfl⟩

set_option maxRecDepth 100000 in
set_option maxHeartbeats 1000000 in
theorem low_any (n : Int) (k : Nat) (hk1 : 1 ≤ k) (hk8 : k ≤ 8) (w : World) :
    Calls Try.prog 68 #[.int .i64 n, .int .i64 k] w fun e w' => ∃ ao c', e = .returned (.slice ao k c') ∧ OwnB w' w.heap.size (.slice ao k c') (lowS n k) ∧ Below w.heap.size w w' := by
  go_enter Try.func68, Try.ntmps68
  go_wp2
  go_loopw [5, 6] (fun v i wr => ∃ (j : Nat) (I : Int), i = .int .i64 I ∧ j ≤ k ∧ I + 1 + (j : Int) = (k : Int) ∧ OwnB wr w.heap.size v ((lowS n k).take j) ∧ Below w.heap.size w wr) (fun _ i _ => (intOf i + 1).toNat)
  case atStart => exact ⟨0, _, rfl, by omega, by go_num, OwnB.nil _ _, Below.refl _ _⟩
  case round =>
    obtain ⟨j, I, rfl, hjk, hI, hoy, hB⟩ := hrel
    rcases (show I = -1 ∨ I = 0 ∨ I = 1 ∨ I = 2 ∨ I = 3 ∨ I = 4 ∨ I = 5 ∨ I = 6 ∨ I = 7 by omega) with rfl | rfl | rfl | rfl | rfl | rfl | rfl | rfl | rfl
    · have hjk' : j = k := by omega
      rw [hjk', List.take_of_length_le (by rw [lowS_len]; exact Nat.le_refl _)] at hoy
      obtain ⟨ao, c, rfl⟩ := own_shape hoy
      rw [lowS_len k n] at hoy ⊢
      clear hjk' hI hjk
      go_wp2
      go_ret
      exact ⟨ao, c, rfl, hoy, hB⟩
    · have hkj : k - 1 - j = 0 := by omega
      have hlt : j < k := by omega
      have ht := hide (lowS_take n k j hlt)
      rw [hkj] at ht
      have hv : Hid (n / 256 ^ 0 % 256 = n % 256) := by unfold Hid; simp
      rw [hv.out] at ht
      have HI := hide hI
      clear hI hkj
      go_wp2_with (at_builtin; refine wpList_appN _ rfl (.tmp 13) (.tmp 20) rfl w.heap.size u5 ((lowS n k).take j) rfl (hoy.alloc _) (some ⟨wr.heap.size, 0, none⟩) 1 1 [n % 256] rfl (Src.lit [n % 256] _ 1 (by have hU : IntKind.u64.wrap n = n % 18446744073709551616 := IntKind.wrap_u64 n; simp [hU] <;> omega) rfl (by simp <;> omega) (by decide)) (j + 1) (by rw [List.length_append, List.length_take, lowS_len]; simp <;> omega) (.inr (by simp)) (by omega) (by have := hB.size; simp <;> omega) ?_; intro g1 c1 w2 ho2 hb2 hl2 hc2 hm2 hg2)
      have hB2 : Below w.heap.size w w2 := (hB.alloc hB.size _).grown hg2 (by have := hB.size; simp; omega) (by intro k hk; exact ((hoy.lt k hk).1))
      go_roundw
      case rel => exact ⟨j + 1, _, rfl, by omega, by have := HI.out; omega, by rw [ht.out]; exact ho2, hB2⟩
      case measure => simp [intOf]
    · have hkj : k - 1 - j = 1 := by omega
      have hlt : j < k := by omega
      have ht := hide (lowS_take n k j hlt)
      rw [hkj] at ht
      have hv : Hid (n / 256 ^ 1 % 256 = n/ 256 % 256) := by unfold Hid; simp
      rw [hv.out] at ht
      have HI := hide hI
      clear hI hkj
      go_wp2_with (at_builtin; refine wpList_appN _ rfl (.tmp 13) (.tmp 20) rfl w.heap.size u5 ((lowS n k).take j) rfl (hoy.alloc _) (some ⟨wr.heap.size, 0, none⟩) 1 1 [n/ 256 % 256] rfl (Src.lit [n/ 256 % 256] _ 1 (by have hU : IntKind.u64.wrap n = n % 18446744073709551616 := IntKind.wrap_u64 n; simp [hU] <;> omega) rfl (by simp <;> omega) (by decide)) (j + 1) (by rw [List.length_append, List.length_take, lowS_len]; simp <;> omega) (.inr (by simp)) (by omega) (by have := hB.size; simp <;> omega) ?_; intro g1 c1 w2 ho2 hb2 hl2 hc2 hm2 hg2)
      have hB2 : Below w.heap.size w w2 := (hB.alloc hB.size _).grown hg2 (by have := hB.size; simp; omega) (by intro k hk; exact ((hoy.lt k hk).1))
      go_roundw
      case rel => exact ⟨j + 1, _, rfl, by omega, by have := HI.out; omega, by rw [ht.out]; exact ho2, hB2⟩
      case measure => simp [intOf]
    · have hkj : k - 1 - j = 2 := by omega
      have hlt : j < k := by omega
      have ht := hide (lowS_take n k j hlt)
      rw [hkj] at ht
      have hv : Hid (n / 256 ^ 2 % 256 = n/ 65536 % 256) := by unfold Hid; simp
      rw [hv.out] at ht
      have HI := hide hI
      clear hI hkj
      go_wp2_with (at_builtin; refine wpList_appN _ rfl (.tmp 13) (.tmp 20) rfl w.heap.size u5 ((lowS n k).take j) rfl (hoy.alloc _) (some ⟨wr.heap.size, 0, none⟩) 1 1 [n/ 65536 % 256] rfl (Src.lit [n/ 65536 % 256] _ 1 (by have hU : IntKind.u64.wrap n = n % 18446744073709551616 := IntKind.wrap_u64 n; simp [hU] <;> omega) rfl (by simp <;> omega) (by decide)) (j + 1) (by rw [List.length_append, List.length_take, lowS_len]; simp <;> omega) (.inr (by simp)) (by omega) (by have := hB.size; simp <;> omega) ?_; intro g1 c1 w2 ho2 hb2 hl2 hc2 hm2 hg2)
      have hB2 : Below w.heap.size w w2 := (hB.alloc hB.size _).grown hg2 (by have := hB.size; simp; omega) (by intro k hk; exact ((hoy.lt k hk).1))
      go_roundw
      case rel => exact ⟨j + 1, _, rfl, by omega, by have := HI.out; omega, by rw [ht.out]; exact ho2, hB2⟩
      case measure => simp [intOf]
    · have hkj : k - 1 - j = 3 := by omega
      have hlt : j < k := by omega
      have ht := hide (lowS_take n k j hlt)
      rw [hkj] at ht
      have hv : Hid (n / 256 ^ 3 % 256 = n/ 16777216 % 256) := by unfold Hid; simp
      rw [hv.out] at ht
      have HI := hide hI
      clear hI hkj
      go_wp2_with (at_builtin; refine wpList_appN _ rfl (.tmp 13) (.tmp 20) rfl w.heap.size u5 ((lowS n k).take j) rfl (hoy.alloc _) (some ⟨wr.heap.size, 0, none⟩) 1 1 [n/ 16777216 % 256] rfl (Src.lit [n/ 16777216 % 256] _ 1 (by have hU : IntKind.u64.wrap n = n % 18446744073709551616 := IntKind.wrap_u64 n; simp [hU] <;> omega) rfl (by simp <;> omega) (by decide)) (j + 1) (by rw [List.length_append, List.length_take, lowS_len]; simp <;> omega) (.inr (by simp)) (by omega) (by have := hB.size; simp <;> omega) ?_; intro g1 c1 w2 ho2 hb2 hl2 hc2 hm2 hg2)
      have hB2 : Below w.heap.size w w2 := (hB.alloc hB.size _).grown hg2 (by have := hB.size; simp; omega) (by intro k hk; exact ((hoy.lt k hk).1))
      go_roundw
      case rel => exact ⟨j + 1, _, rfl, by omega, by have := HI.out; omega, by rw [ht.out]; exact ho2, hB2⟩
      case measure => simp [intOf]
    · have hkj : k - 1 - j = 4 := by omega
      have hlt : j < k := by omega
      have ht := hide (lowS_take n k j hlt)
      rw [hkj] at ht
      have hv : Hid (n / 256 ^ 4 % 256 = n/ 4294967296 % 256) := by unfold Hid; simp
      rw [hv.out] at ht
      have HI := hide hI
      clear hI hkj
      go_wp2_with (at_builtin; refine wpList_appN _ rfl (.tmp 13) (.tmp 20) rfl w.heap.size u5 ((lowS n k).take j) rfl (hoy.alloc _) (some ⟨wr.heap.size, 0, none⟩) 1 1 [n/ 4294967296 % 256] rfl (Src.lit [n/ 4294967296 % 256] _ 1 (by have hU : IntKind.u64.wrap n = n % 18446744073709551616 := IntKind.wrap_u64 n; simp [hU] <;> omega) rfl (by simp <;> omega) (by decide)) (j + 1) (by rw [List.length_append, List.length_take, lowS_len]; simp <;> omega) (.inr (by simp)) (by omega) (by have := hB.size; simp <;> omega) ?_; intro g1 c1 w2 ho2 hb2 hl2 hc2 hm2 hg2)
      have hB2 : Below w.heap.size w w2 := (hB.alloc hB.size _).grown hg2 (by have := hB.size; simp; omega) (by intro k hk; exact ((hoy.lt k hk).1))
      go_roundw
      case rel => exact ⟨j + 1, _, rfl, by omega, by have := HI.out; omega, by rw [ht.out]; exact ho2, hB2⟩
      case measure => simp [intOf]
    · have hkj : k - 1 - j = 5 := by omega
      have hlt : j < k := by omega
      have ht := hide (lowS_take n k j hlt)
      rw [hkj] at ht
      have hv : Hid (n / 256 ^ 5 % 256 = n/ 1099511627776 % 256) := by unfold Hid; simp
      rw [hv.out] at ht
      have HI := hide hI
      clear hI hkj
      go_wp2_with (at_builtin; refine wpList_appN _ rfl (.tmp 13) (.tmp 20) rfl w.heap.size u5 ((lowS n k).take j) rfl (hoy.alloc _) (some ⟨wr.heap.size, 0, none⟩) 1 1 [n/ 1099511627776 % 256] rfl (Src.lit [n/ 1099511627776 % 256] _ 1 (by have hU : IntKind.u64.wrap n = n % 18446744073709551616 := IntKind.wrap_u64 n; simp [hU] <;> omega) rfl (by simp <;> omega) (by decide)) (j + 1) (by rw [List.length_append, List.length_take, lowS_len]; simp <;> omega) (.inr (by simp)) (by omega) (by have := hB.size; simp <;> omega) ?_; intro g1 c1 w2 ho2 hb2 hl2 hc2 hm2 hg2)
      have hB2 : Below w.heap.size w w2 := (hB.alloc hB.size _).grown hg2 (by have := hB.size; simp; omega) (by intro k hk; exact ((hoy.lt k hk).1))
      go_roundw
      case rel => exact ⟨j + 1, _, rfl, by omega, by have := HI.out; omega, by rw [ht.out]; exact ho2, hB2⟩
      case measure => simp [intOf]
    · have hkj : k - 1 - j = 6 := by omega
      have hlt : j < k := by omega
      have ht := hide (lowS_take n k j hlt)
      rw [hkj] at ht
      have hv : Hid (n / 256 ^ 6 % 256 = n/ 281474976710656 % 256) := by unfold Hid; simp
      rw [hv.out] at ht
      have HI := hide hI
      clear hI hkj
      go_wp2_with (at_builtin; refine wpList_appN _ rfl (.tmp 13) (.tmp 20) rfl w.heap.size u5 ((lowS n k).take j) rfl (hoy.alloc _) (some ⟨wr.heap.size, 0, none⟩) 1 1 [n/ 281474976710656 % 256] rfl (Src.lit [n/ 281474976710656 % 256] _ 1 (by have hU : IntKind.u64.wrap n = n % 18446744073709551616 := IntKind.wrap_u64 n; simp [hU] <;> omega) rfl (by simp <;> omega) (by decide)) (j + 1) (by rw [List.length_append, List.length_take, lowS_len]; simp <;> omega) (.inr (by simp)) (by omega) (by have := hB.size; simp <;> omega) ?_; intro g1 c1 w2 ho2 hb2 hl2 hc2 hm2 hg2)
      have hB2 : Below w.heap.size w w2 := (hB.alloc hB.size _).grown hg2 (by have := hB.size; simp; omega) (by intro k hk; exact ((hoy.lt k hk).1))
      go_roundw
      case rel => exact ⟨j + 1, _, rfl, by omega, by have := HI.out; omega, by rw [ht.out]; exact ho2, hB2⟩
      case measure => simp [intOf]
    · have hkj : k - 1 - j = 7 := by omega
      have hlt : j < k := by omega
      have ht := hide (lowS_take n k j hlt)
      rw [hkj] at ht
      have hv : Hid (n / 256 ^ 7 % 256 = n/ 72057594037927936 % 256) := by unfold Hid; simp
      rw [hv.out] at ht
      have HI := hide hI
      clear hI hkj
      go_wp2_with (at_builtin; refine wpList_appN _ rfl (.tmp 13) (.tmp 20) rfl w.heap.size u5 ((lowS n k).take j) rfl (hoy.alloc _) (some ⟨wr.heap.size, 0, none⟩) 1 1 [n/ 72057594037927936 % 256] rfl (Src.lit [n/ 72057594037927936 % 256] _ 1 (by have hU : IntKind.u64.wrap n = n % 18446744073709551616 := IntKind.wrap_u64 n; simp [hU] <;> omega) rfl (by simp <;> omega) (by decide)) (j + 1) (by rw [List.length_append, List.length_take, lowS_len]; simp <;> omega) (.inr (by simp)) (by omega) (by have := hB.size; simp <;> omega) ?_; intro g1 c1 w2 ho2 hb2 hl2 hc2 hm2 hg2)
      have hB2 : Below w.heap.size w w2 := (hB.alloc hB.size _).grown hg2 (by have := hB.size; simp; omega) (by intro k hk; exact ((hoy.lt k hk).1))
      go_roundw
      case rel => exact ⟨j + 1, _, rfl, by omega, by have := HI.out; omega, by rw [ht.out]; exact ho2, hB2⟩
      case measure => simp [intOf]

end Go.Proofs.Ytaeddbkkkiefcaa
