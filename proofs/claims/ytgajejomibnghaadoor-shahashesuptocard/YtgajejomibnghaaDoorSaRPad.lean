/-
  The document's padded text.
-/
import Derived.Test.YtgajejomibnghaaDoorSaZer
namespace Go.Proofs.YtgajejomibnghaaDoor
open Go.RowKit Go.IntWalk

def len8 (n : Nat) : List Int := [(8 * n : Int) / 72057594037927936 % 256, (8 * n : Int) / 281474976710656 % 256, (8 * n : Int) / 1099511627776 % 256, (8 * n : Int) / 4294967296 % 256, (8 * n : Int) / 16777216 % 256, (8 * n : Int) / 65536 % 256, (8 * n : Int) / 256 % 256, (8 * n : Int) % 256]

theorem pad_len8 (xs : List Int) (n : Nat) : xs ++ pad n = xs ++ [128] ++ List.replicate (zerosN n) 0 ++ len8 n := by simp [pad, len8]

def vLen : Value → Nat
  | .slice _ n _ => n
  | _ => 0
theorem vLen_slice (a : Option Addr) (n c : Nat) : vLen (.slice a n c) = n := rfl

theorem len8_dg (n : Nat) : Dg 256 (len8 n) := by
  intro x hx
  simp [len8] at hx
  omega


set_option maxRecDepth 100000 in
set_option maxHeartbeats 4000000 in
theorem padded_any (a : Option Addr) (n c : Nat) (xs : List Int) (w : World) (hs : SrcG .u8 256 w a n c xs) (hn : n ≤ 1099511627776) :
    Calls Tryd.prog 30 #[.slice a n c] w fun e w' => ∃ g c', e = .returned (.slice (some ⟨g, 0, none⟩) (n + (9 + zerosN n)) c') ∧ OwnG .u8 5 w' w.heap.size (.slice (some ⟨g, 0, none⟩) (n + (9 + zerosN n)) c') (xs ++ pad n) ∧ w.heap.size ≤ g ∧ Below w.heap.size w w' := by
  have HS := hide hs
  have HL := hide hs.hlen
  have HPD := hide (pad_len8 xs n)
  have nI : (n : Int) ≤ 1099511627776 := by omega
  obtain ⟨Z, hZ⟩ : ∃ Z, zerosN n = Z := ⟨_, rfl⟩
  have hZb : Z < 64 := by rw [← hZ]; unfold zerosN; omega
  have hZm : ∀ k, k ≤ Z → ((n + 1 + k + 8) % 64 = 0 ↔ k = Z) := by intro k hk; rw [← hZ] at hk ⊢; unfold zerosN at hk ⊢; omega
  rw [hZ] at HPD ⊢
  have HZM := hide hZm
  have HZ := hide hZ
  clear hs hZm hZ
  go_enter Tryd.func30, Tryd.ntmps30
  go_wp2_with (first | (at_builtin; refine appG 22 1 Tryd.underlying22 Tryd.infoB8 _ rfl (.tmp 6) (.tmp 7) rfl w.heap.size (.slice (some ⟨w.heap.size, 0, none⟩) 0 0) [] rfl (OwnG.lit _ [] _ 0 rfl rfl (Nat.le_refl _) (by decide)) a n c xs rfl (HS.out.alloc _) n (by simpa using HL.out) (.inl (by simp)) (by omega) (by omega) (by simp) ?_; intro g1 c2 w1 ho1 hb1 hl1 hc1 hm1 hg1 hat1) | (at_builtin; refine appG 22 1 Tryd.underlying22 Tryd.infoB8 _ rfl (.tmp 8) (.tmp 9) rfl w.heap.size (.slice (some ⟨g1, 0, none⟩) n c2) ([] ++ xs) rfl (ho1.alloc _) (some ⟨w1.heap.size, 0, none⟩) 1 1 [128] rfl (SrcG.litAt (B := 256) [128] _ 1 _ rfl rfl (by intro x hx; simp at hx; omega) (by decide) rfl) (n + 1) (by simpa using HL.out) (.inl (by simp)) (by omega) (by omega) (by have := hg1.size; simp at this ⊢; omega) ?_; intro g2 c3 w2 ho2 hb2 hl2 hc2 hm2 hg2 hat2) | fail)
  have hB1 : Below w.heap.size w w1 := ((Below.refl _ _).alloc (Nat.le_refl _) _).grown hg1 (by simp) (by intro k hk; cases hk; exact Nat.le_refl _)
  have hB2 : Below w.heap.size w w2 := (hB1.alloc hB1.size _).grown hg2 (by have := hB1.size; simp; omega) (by intro k hk; cases hk; exact hb1)
  have HO2 : Hid (OwnG .u8 5 w2 w.heap.size (.slice (some ⟨g2, 0, none⟩) (n + 1) c3) (xs ++ [128] ++ List.replicate 0 0)) := by unfold Hid; simpa using ho2
  clear ho1 ho2 hg1 hg2 hat1 hat2
  go_loopw [3] (fun v wr => ∃ (k g cc : Nat), v = .slice (some ⟨g, 0, none⟩) (n + 1 + k) cc ∧ k ≤ Z ∧ Hid (OwnG .u8 5 wr w.heap.size (.slice (some ⟨g, 0, none⟩) (n + 1 + k) cc) (xs ++ [128] ++ List.replicate k 0)) ∧ w.heap.size ≤ g ∧ g < wr.heap.size ∧ Below w.heap.size w wr) (fun v _ => n + 65 - vLen v)
  case atStart => exact ⟨0, g2, c3, rfl, by omega, HO2, hb2, hl2, hB2⟩
  case round =>
    obtain ⟨k, g, cc, rfl, hk, HO, hb, hl, hB⟩ := hrel
    obtain ⟨m, hm⟩ : ∃ m, n + 1 + k = m := ⟨_, rfl⟩
    have hzk := HZM.out k hk
    rw [hm] at hzk HO ⊢
    have mI : (m : Int) ≤ 1099511627999 := by omega
    have HLX : Hid ((xs ++ [128] ++ List.replicate k 0).length = m) := by unfold Hid; simp [HL.out]; omega
    by_cases hkz : k = Z
    · have ht : Int.tmod ((m : Int) + 8) 64 = 0 := by rw [Int.tmod_eq_emod_of_nonneg (by omega)]; have := hzk.2 hkz; omega
      subst hkz
      have HM := hide hm
      have HZ8 := hide (len8_dg n)
      clear hzk hm
      obtain ⟨N8, hN8⟩ : ∃ N8 : Int, (n : Int) * 8 = N8 := ⟨_, rfl⟩
      have h8b : 0 ≤ N8 ∧ N8 ≤ 8796093022208 := by omega
      have HL8 : Hid (len8 n = [N8 / 72057594037927936 % 256, N8 / 281474976710656 % 256, N8 / 1099511627776 % 256, N8 / 4294967296 % 256, N8 / 16777216 % 256, N8 / 65536 % 256, N8 / 256 % 256, N8 % 256]) := by unfold Hid len8; rw [← hN8, Int.mul_comm]
      go_wp2
      have h8c : 0 ≤ N8 ∧ N8 ≤ 9223372036854775800 := by omega
      clear hN8 h8b
      have HX : Hid (xs ++ [128] ++ List.replicate k 0 ++ len8 n = xs ++ pad n) := HPD.out.symm
      go_loopw [3, 5] (fun v i wv => ∃ (j g cc : Nat), v = .slice (some ⟨g, 0, none⟩) (m + j) cc ∧ i = .int .i64 j ∧ j ≤ 8 ∧ Hid (OwnG .u8 5 wv w.heap.size (.slice (some ⟨g, 0, none⟩) (m + j) cc) (xs ++ [128] ++ List.replicate k 0 ++ (len8 n).take j)) ∧ w.heap.size ≤ g ∧ g < wv.heap.size ∧ Below w.heap.size w wv) (fun _ i _ => (8 - intOf i).toNat)
      case atStart => exact ⟨0, g, cc, rfl, rfl, by omega, by simpa using HO, hb, hl, hB⟩
      case round =>
        obtain ⟨j, g9, cc9, rfl, rfl, hj8, HO9, hb9, hl9, hB9⟩ := hrel
        by_cases hj : j = 8
        · subst hj
          have HF := HO9.out
          rw [List.take_of_length_le (by simp [len8]), HX.out] at HF
          have HFF := hide HF
          have hm9 := HM.out
          clear HF
          go_wp2
          go_ret
          refine ⟨g9, cc9, ?_, ?_, hb9, hB9⟩
          · rw [show n + (9 + k) = m + 8 by omega]; rfl
          · rw [show n + (9 + k) = m + 8 by omega]; exact HFF.out
        rcases (by omega : j = 0 ∨ j = 1 ∨ j = 2 ∨ j = 3 ∨ j = 4 ∨ j = 5 ∨ j = 6 ∨ j = 7) with h | h | h | h | h | h | h | h
        · obtain rfl : j = 0 := by omega
          clear hj8
          have HLJ : Hid ((xs ++ [128] ++ List.replicate k 0 ++ (len8 n).take 0).length = m + 0) := by unfold Hid; rw [List.length_append, HLX.out]; rfl
          have HNX : Hid ((len8 n).take 0 ++ [N8 / 72057594037927936] = (len8 n).take (0 + 1)) := by unfold Hid; rw [HL8.out]; first | rfl | (simp; omega)
          go_wp2_with (first | (at_builtin; refine appG 22 1 Tryd.underlying22 Tryd.infoB8 _ rfl (.tmp 27) (.tmp 34) rfl w.heap.size (.slice (some ⟨g9, 0, none⟩) (m + 0) cc9) _ rfl (HO9.out.alloc _) (some ⟨wr.heap.size, 0, none⟩) 1 1 [N8 / 72057594037927936] rfl (SrcG.litAt (B := 256) [N8 / 72057594037927936] _ 1 _ rfl rfl (by intro x hx; simp at hx; omega) (by decide) rfl) (m + 0 + 1) (by rw [List.length_append, HLJ.out]; rfl) (.inl (by simp)) (by omega) (by omega) (by have := hB9.size; simp; omega) ?_; intro g3 c4 w3 ho3 hb3 hl3 hc3 hm3 hg3 hat3) | fail)
          have hB3 : Below w.heap.size w w3 := (hB9.alloc hB9.size _).grown hg3 (by have := hB9.size; simp; omega) (by intro k hk; cases hk; exact hb9)
          go_roundw
          case rel =>
            rw [List.append_assoc _ ((len8 n).take 0), HNX.out] at ho3
            exact ⟨0 + 1, g3, c4, rfl, by go_num, by omega, ho3, hb3, hl3, hB3⟩
          case measure => simp [intOf]
        · obtain rfl : j = 1 := by omega
          clear hj8
          have HLJ : Hid ((xs ++ [128] ++ List.replicate k 0 ++ (len8 n).take 1).length = m + 1) := by unfold Hid; rw [List.length_append, HLX.out]; rfl
          have HNX : Hid ((len8 n).take 1 ++ [N8 / 281474976710656 % 256] = (len8 n).take (1 + 1)) := by unfold Hid; rw [HL8.out]; first | rfl | (simp; omega)
          go_wp2_with (first | (at_builtin; refine appG 22 1 Tryd.underlying22 Tryd.infoB8 _ rfl (.tmp 27) (.tmp 34) rfl w.heap.size (.slice (some ⟨g9, 0, none⟩) (m + 1) cc9) _ rfl (HO9.out.alloc _) (some ⟨wr.heap.size, 0, none⟩) 1 1 [N8 / 281474976710656 % 256] rfl (SrcG.litAt (B := 256) [N8 / 281474976710656 % 256] _ 1 _ rfl rfl (by intro x hx; simp at hx; omega) (by decide) rfl) (m + 1 + 1) (by rw [List.length_append, HLJ.out]; rfl) (.inl (by simp)) (by omega) (by omega) (by have := hB9.size; simp; omega) ?_; intro g3 c4 w3 ho3 hb3 hl3 hc3 hm3 hg3 hat3) | fail)
          have hB3 : Below w.heap.size w w3 := (hB9.alloc hB9.size _).grown hg3 (by have := hB9.size; simp; omega) (by intro k hk; cases hk; exact hb9)
          go_roundw
          case rel =>
            rw [List.append_assoc _ ((len8 n).take 1), HNX.out] at ho3
            exact ⟨1 + 1, g3, c4, rfl, by go_num, by omega, ho3, hb3, hl3, hB3⟩
          case measure => simp [intOf]
        · obtain rfl : j = 2 := by omega
          clear hj8
          have HLJ : Hid ((xs ++ [128] ++ List.replicate k 0 ++ (len8 n).take 2).length = m + 2) := by unfold Hid; rw [List.length_append, HLX.out]; rfl
          have HNX : Hid ((len8 n).take 2 ++ [N8 / 1099511627776 % 256] = (len8 n).take (2 + 1)) := by unfold Hid; rw [HL8.out]; first | rfl | (simp; omega)
          go_wp2_with (first | (at_builtin; refine appG 22 1 Tryd.underlying22 Tryd.infoB8 _ rfl (.tmp 27) (.tmp 34) rfl w.heap.size (.slice (some ⟨g9, 0, none⟩) (m + 2) cc9) _ rfl (HO9.out.alloc _) (some ⟨wr.heap.size, 0, none⟩) 1 1 [N8 / 1099511627776 % 256] rfl (SrcG.litAt (B := 256) [N8 / 1099511627776 % 256] _ 1 _ rfl rfl (by intro x hx; simp at hx; omega) (by decide) rfl) (m + 2 + 1) (by rw [List.length_append, HLJ.out]; rfl) (.inl (by simp)) (by omega) (by omega) (by have := hB9.size; simp; omega) ?_; intro g3 c4 w3 ho3 hb3 hl3 hc3 hm3 hg3 hat3) | fail)
          have hB3 : Below w.heap.size w w3 := (hB9.alloc hB9.size _).grown hg3 (by have := hB9.size; simp; omega) (by intro k hk; cases hk; exact hb9)
          go_roundw
          case rel =>
            rw [List.append_assoc _ ((len8 n).take 2), HNX.out] at ho3
            exact ⟨2 + 1, g3, c4, rfl, by go_num, by omega, ho3, hb3, hl3, hB3⟩
          case measure => simp [intOf]
        · obtain rfl : j = 3 := by omega
          clear hj8
          have HLJ : Hid ((xs ++ [128] ++ List.replicate k 0 ++ (len8 n).take 3).length = m + 3) := by unfold Hid; rw [List.length_append, HLX.out]; rfl
          have HNX : Hid ((len8 n).take 3 ++ [N8 / 4294967296 % 256] = (len8 n).take (3 + 1)) := by unfold Hid; rw [HL8.out]; first | rfl | (simp; omega)
          go_wp2_with (first | (at_builtin; refine appG 22 1 Tryd.underlying22 Tryd.infoB8 _ rfl (.tmp 27) (.tmp 34) rfl w.heap.size (.slice (some ⟨g9, 0, none⟩) (m + 3) cc9) _ rfl (HO9.out.alloc _) (some ⟨wr.heap.size, 0, none⟩) 1 1 [N8 / 4294967296 % 256] rfl (SrcG.litAt (B := 256) [N8 / 4294967296 % 256] _ 1 _ rfl rfl (by intro x hx; simp at hx; omega) (by decide) rfl) (m + 3 + 1) (by rw [List.length_append, HLJ.out]; rfl) (.inl (by simp)) (by omega) (by omega) (by have := hB9.size; simp; omega) ?_; intro g3 c4 w3 ho3 hb3 hl3 hc3 hm3 hg3 hat3) | fail)
          have hB3 : Below w.heap.size w w3 := (hB9.alloc hB9.size _).grown hg3 (by have := hB9.size; simp; omega) (by intro k hk; cases hk; exact hb9)
          go_roundw
          case rel =>
            rw [List.append_assoc _ ((len8 n).take 3), HNX.out] at ho3
            exact ⟨3 + 1, g3, c4, rfl, by go_num, by omega, ho3, hb3, hl3, hB3⟩
          case measure => simp [intOf]
        · obtain rfl : j = 4 := by omega
          clear hj8
          have HLJ : Hid ((xs ++ [128] ++ List.replicate k 0 ++ (len8 n).take 4).length = m + 4) := by unfold Hid; rw [List.length_append, HLX.out]; rfl
          have HNX : Hid ((len8 n).take 4 ++ [N8 / 16777216 % 256] = (len8 n).take (4 + 1)) := by unfold Hid; rw [HL8.out]; first | rfl | (simp; omega)
          go_wp2_with (first | (at_builtin; refine appG 22 1 Tryd.underlying22 Tryd.infoB8 _ rfl (.tmp 27) (.tmp 34) rfl w.heap.size (.slice (some ⟨g9, 0, none⟩) (m + 4) cc9) _ rfl (HO9.out.alloc _) (some ⟨wr.heap.size, 0, none⟩) 1 1 [N8 / 16777216 % 256] rfl (SrcG.litAt (B := 256) [N8 / 16777216 % 256] _ 1 _ rfl rfl (by intro x hx; simp at hx; omega) (by decide) rfl) (m + 4 + 1) (by rw [List.length_append, HLJ.out]; rfl) (.inl (by simp)) (by omega) (by omega) (by have := hB9.size; simp; omega) ?_; intro g3 c4 w3 ho3 hb3 hl3 hc3 hm3 hg3 hat3) | fail)
          have hB3 : Below w.heap.size w w3 := (hB9.alloc hB9.size _).grown hg3 (by have := hB9.size; simp; omega) (by intro k hk; cases hk; exact hb9)
          go_roundw
          case rel =>
            rw [List.append_assoc _ ((len8 n).take 4), HNX.out] at ho3
            exact ⟨4 + 1, g3, c4, rfl, by go_num, by omega, ho3, hb3, hl3, hB3⟩
          case measure => simp [intOf]
        · obtain rfl : j = 5 := by omega
          clear hj8
          have HLJ : Hid ((xs ++ [128] ++ List.replicate k 0 ++ (len8 n).take 5).length = m + 5) := by unfold Hid; rw [List.length_append, HLX.out]; rfl
          have HNX : Hid ((len8 n).take 5 ++ [N8 / 65536 % 256] = (len8 n).take (5 + 1)) := by unfold Hid; rw [HL8.out]; first | rfl | (simp; omega)
          go_wp2_with (first | (at_builtin; refine appG 22 1 Tryd.underlying22 Tryd.infoB8 _ rfl (.tmp 27) (.tmp 34) rfl w.heap.size (.slice (some ⟨g9, 0, none⟩) (m + 5) cc9) _ rfl (HO9.out.alloc _) (some ⟨wr.heap.size, 0, none⟩) 1 1 [N8 / 65536 % 256] rfl (SrcG.litAt (B := 256) [N8 / 65536 % 256] _ 1 _ rfl rfl (by intro x hx; simp at hx; omega) (by decide) rfl) (m + 5 + 1) (by rw [List.length_append, HLJ.out]; rfl) (.inl (by simp)) (by omega) (by omega) (by have := hB9.size; simp; omega) ?_; intro g3 c4 w3 ho3 hb3 hl3 hc3 hm3 hg3 hat3) | fail)
          have hB3 : Below w.heap.size w w3 := (hB9.alloc hB9.size _).grown hg3 (by have := hB9.size; simp; omega) (by intro k hk; cases hk; exact hb9)
          go_roundw
          case rel =>
            rw [List.append_assoc _ ((len8 n).take 5), HNX.out] at ho3
            exact ⟨5 + 1, g3, c4, rfl, by go_num, by omega, ho3, hb3, hl3, hB3⟩
          case measure => simp [intOf]
        · obtain rfl : j = 6 := by omega
          clear hj8
          have HLJ : Hid ((xs ++ [128] ++ List.replicate k 0 ++ (len8 n).take 6).length = m + 6) := by unfold Hid; rw [List.length_append, HLX.out]; rfl
          have HNX : Hid ((len8 n).take 6 ++ [N8 / 256 % 256] = (len8 n).take (6 + 1)) := by unfold Hid; rw [HL8.out]; first | rfl | (simp; omega)
          go_wp2_with (first | (at_builtin; refine appG 22 1 Tryd.underlying22 Tryd.infoB8 _ rfl (.tmp 27) (.tmp 34) rfl w.heap.size (.slice (some ⟨g9, 0, none⟩) (m + 6) cc9) _ rfl (HO9.out.alloc _) (some ⟨wr.heap.size, 0, none⟩) 1 1 [N8 / 256 % 256] rfl (SrcG.litAt (B := 256) [N8 / 256 % 256] _ 1 _ rfl rfl (by intro x hx; simp at hx; omega) (by decide) rfl) (m + 6 + 1) (by rw [List.length_append, HLJ.out]; rfl) (.inl (by simp)) (by omega) (by omega) (by have := hB9.size; simp; omega) ?_; intro g3 c4 w3 ho3 hb3 hl3 hc3 hm3 hg3 hat3) | fail)
          have hB3 : Below w.heap.size w w3 := (hB9.alloc hB9.size _).grown hg3 (by have := hB9.size; simp; omega) (by intro k hk; cases hk; exact hb9)
          go_roundw
          case rel =>
            rw [List.append_assoc _ ((len8 n).take 6), HNX.out] at ho3
            exact ⟨6 + 1, g3, c4, rfl, by go_num, by omega, ho3, hb3, hl3, hB3⟩
          case measure => simp [intOf]
        · obtain rfl : j = 7 := by omega
          clear hj8
          have HLJ : Hid ((xs ++ [128] ++ List.replicate k 0 ++ (len8 n).take 7).length = m + 7) := by unfold Hid; rw [List.length_append, HLX.out]; rfl
          have HNX : Hid ((len8 n).take 7 ++ [N8 % 256] = (len8 n).take (7 + 1)) := by unfold Hid; rw [HL8.out]; first | rfl | (simp; omega)
          go_wp2_with (first | (at_builtin; refine appG 22 1 Tryd.underlying22 Tryd.infoB8 _ rfl (.tmp 27) (.tmp 34) rfl w.heap.size (.slice (some ⟨g9, 0, none⟩) (m + 7) cc9) _ rfl (HO9.out.alloc _) (some ⟨wr.heap.size, 0, none⟩) 1 1 [N8 % 256] rfl (SrcG.litAt (B := 256) [N8 % 256] _ 1 _ rfl rfl (by intro x hx; simp at hx; omega) (by decide) rfl) (m + 7 + 1) (by rw [List.length_append, HLJ.out]; rfl) (.inl (by simp)) (by omega) (by omega) (by have := hB9.size; simp; omega) ?_; intro g3 c4 w3 ho3 hb3 hl3 hc3 hm3 hg3 hat3) | fail)
          have hB3 : Below w.heap.size w w3 := (hB9.alloc hB9.size _).grown hg3 (by have := hB9.size; simp; omega) (by intro k hk; cases hk; exact hb9)
          go_roundw
          case rel =>
            rw [List.append_assoc _ ((len8 n).take 7), HNX.out] at ho3
            exact ⟨7 + 1, g3, c4, rfl, by go_num, by omega, ho3, hb3, hl3, hB3⟩
          case measure => simp [intOf]
    · have ht : Int.tmod ((m : Int) + 8) 64 = ((m + 8) % 64 : Nat) := by rw [Int.tmod_eq_emod_of_nonneg (by omega)]; omega
      have ht2 : (m + 8) % 64 ≠ 0 := fun h => hkz (hzk.1 h)
      obtain ⟨R, hR⟩ : ∃ R, (m + 8) % 64 = R := ⟨_, rfl⟩
      rw [hR] at ht ht2
      have ht3 : (0 : Int) < (R : Int) := by omega
      have HR := hide hR
      have HM := hide hm
      clear hzk hR hm ht2
      go_wp2_with (first | (at_builtin; refine appG 22 1 Tryd.underlying22 Tryd.infoB8 _ rfl (.tmp 16) (.tmp 17) rfl w.heap.size (.slice (some ⟨g, 0, none⟩) m cc) _ rfl (HO.out.alloc _) (some ⟨wr.heap.size, 0, none⟩) 1 1 [0] rfl (SrcG.litAt (B := 256) [0] _ 1 _ rfl rfl (by intro x hx; simp at hx; omega) (by decide) rfl) (m + 1) (by rw [List.length_append, HLX.out]; rfl) (.inl (by simp)) (by omega) (by omega) (by have := hB.size; simp; omega) ?_; intro g3 c4 w3 ho3 hb3 hl3 hc3 hm3 hg3 hat3) | fail)
      have hB3 : Below w.heap.size w w3 := (hB.alloc hB.size _).grown hg3 (by have := hB.size; simp; omega) (by intro k hk; cases hk; exact hb)
      have hm9 := HM.out
      go_roundw
      case rel =>
        have e : xs ++ [128] ++ List.replicate k (0 : Int) ++ [0] = xs ++ [128] ++ List.replicate (k + 1) 0 := by rw [List.append_assoc _ (List.replicate k 0), ← List.replicate_succ']
        rw [e] at ho3
        exact ⟨k + 1, g3, c4, by rw [← hm9]; rfl, by omega, by unfold Hid; rw [show n + 1 + (k + 1) = m + 1 by omega]; exact ho3, hb3, hl3, hB3⟩
      case measure => simp [vLen_slice]; omega

end Go.Proofs.YtgajejomibnghaaDoor
