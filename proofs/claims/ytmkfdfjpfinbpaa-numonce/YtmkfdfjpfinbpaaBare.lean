/-
  Natural numbers as bytes, plain functions; the reference's bare.
-/
import Derived.Test.YtmkfdfjpfinbpaaShort
namespace Go.Proofs.Ytmkfdfjpfinbpaa
open Go.RowKit Go.IntWalk

def bareS : List Int → List Int
  | [] => []
  | x :: r => if x = 0 then bareS r else x :: r

def natS (xs : List Int) : List Int := shortS (0 :: xs)

def natR : List Int → List Int
  | [] => [0]
  | y :: r => if 128 ≤ y then 0 :: y :: r else y :: r

theorem shortS_same (x : Int) (r : List Int) (h : x ≠ 0) (h' : x ≠ 255) : shortS (x :: r) = x :: r := by
  cases r with
  | nil => rfl
  | cons y r => unfold shortS; rw [if_neg (by simp [idleS, h, h'])]

theorem natS_eq : ∀ xs : List Int, natS xs = natR (bareS xs)
  | [] => rfl
  | x :: r => by
    unfold natS shortS bareS
    by_cases h0 : x = 0
    · subst h0
      rw [if_pos (by simp [idleS]), if_pos rfl]
      exact natS_eq r
    · rw [if_neg h0]
      show _ = if 128 ≤ x then 0 :: x :: r else x :: r
      by_cases h1 : 128 ≤ x
      · rw [if_neg (by simp [idleS]; omega), if_pos h1]
      · rw [if_pos (by simp [idleS]; omega), if_neg h1, shortS_same x r h0 (by omega)]

theorem bareS_mem : ∀ (xs : List Int) (x : Int), x ∈ bareS xs → x ∈ xs
  | [], _, h => h
  | x :: r, z, h => by
    unfold bareS at h
    split at h
    · exact List.mem_cons_of_mem _ (bareS_mem r z h)
    · exact h

theorem bareS_len : ∀ xs : List Int, (bareS xs).length ≤ xs.length
  | [] => Nat.le_refl _
  | x :: r => by
    unfold bareS
    split
    · have := bareS_len r
      simp only [List.length_cons]
      omega
    · exact Nat.le_refl _

theorem natS_byte (xs : List Int) (hb : ∀ x ∈ xs, 0 ≤ x ∧ x < 256) : ∀ x ∈ natS xs, 0 ≤ x ∧ x < 256 := by
  intro x hx
  have := shortS_mem _ _ hx
  simp at this
  rcases this with rfl | h
  · omega
  · exact hb x h

theorem natS_len (xs : List Int) : (natS xs).length ≤ xs.length + 1 := by
  have := shortS_len (0 :: xs)
  simp only [List.length_cons] at this
  exact this

theorem drop_at (xs : List Int) (k : Nat) (h : k < xs.length) : xs.drop k = xs.getD k 0 :: xs.drop (k + 1) := by
  rw [List.drop_eq_getElem_cons h]
  simp [List.getD, h]

theorem Src.at {w : World} {ao : Option Addr} {n cap : Nat} {xs : List Int} (h : Src w ao n cap xs) (k : Nat) (hk : k < n) : ∃ b off, ao = some ⟨b, off, none⟩ ∧ w.cell? ⟨b, off + k, none⟩ = some (.int .u8 (xs.getD k 0)) := by
  have hl := h.hlen
  obtain ⟨b, off, he, hc⟩ := h.hrd (by intro h'; subst h'; simp at hl; omega)
  exact ⟨b, off, he, hc k (by omega)⟩

set_option maxRecDepth 100000 in
set_option maxHeartbeats 1000000 in
theorem bare_any (ao : Option Addr) (n cap : Nat) (xs : List Int) (w : World) (hs : Src w ao n cap xs) (hn : n ≤ 140737488355328) :
    Calls Try.prog 23 #[.slice ao n cap] w fun e w' => ∃ g c', e = .returned (.slice (some ⟨g, 0, none⟩) (bareS xs).length c') ∧ OwnB w' w.heap.size (.slice (some ⟨g, 0, none⟩) (bareS xs).length c') (bareS xs) ∧ Below w.heap.size w w' := by
  have HL := hide hs.hlen
  go_enter Try.func23, Try.ntmps23
  go_wp2
  go_loop [3] (fun v => ∃ k : Nat, v = .int .i64 k ∧ k ≤ n ∧ bareS (xs.drop k) = bareS xs) (fun v => n - (intOf v).toNat)
  case atStart => exact ⟨0, rfl, Nat.zero_le _, rfl⟩
  case round =>
    obtain ⟨k, rfl, hk, hbk⟩ := hrel
    have HB := hide hbk
    clear hbk
    by_cases hlt : k < n
    · obtain ⟨b, off, rfl, hc⟩ := hs.at k hlt
      have hd := hide (drop_at xs k (by rw [HL.out]; exact hlt))
      generalize xs.getD k 0 = x at hc hd
      by_cases h0 : x = 0
      · subst h0
        go_wp2
        go_round
        case rel => exact ⟨k + 1, by go_num, by omega, by have := HB.out; rw [hd.out] at this; rw [← this]; conv => rhs; unfold bareS; rw [if_pos rfl]⟩
        case measure => simp [intOf]; omega
      · have e1 : bareS xs = xs.drop k := by rw [← HB.out, hd.out]; unfold bareS; rw [if_neg h0]
        have E1 := hide e1
        clear e1
        have sl := fun W => slice_lo W (some ⟨b, off, none⟩) n cap (k : Int) k rfl (by omega)
        have hs1 := hs.cut k n (by omega) (Nat.le_refl _)
        rw [List.take_of_length_le (by rw [HL.out]; exact Nat.le_refl _)] at hs1
        generalize cutA (some ⟨b, off, none⟩) cap k = A at sl hs1
        go_wp2_with (at_builtin; refine wpList_appN _ rfl (.tmp 17) (.tmp 20) rfl w.heap.size (.slice (some ⟨w.heap.size, 0, none⟩) 0 0) [] rfl (OwnB.lit _ [] _ 0 rfl rfl (Nat.le_refl _) (by decide)) A (n - k) (cap - k) (xs.drop k) rfl (hs1.alloc _) (n - k) (by simp [HL.out]) (.inl (by simp)) (by omega) (by simp) ?_; intro g1 c1 w1 ho1 hb1 hl1 hc1 hm1 hg1)
        go_ret
        rw [E1.out]
        exact ⟨g1, c1, by rw [List.length_drop, HL.out]; rfl, by rw [List.length_drop, HL.out]; exact ho1, ((Below.refl _ _).alloc (Nat.le_refl _) _).grown hg1 (by simp) (by intro k hk; cases hk; exact Nat.le_refl _)⟩
    · obtain rfl : k = n := by omega
      have e1 : bareS xs = [] := by rw [← HB.out, List.drop_eq_nil_of_le (by rw [HL.out]; exact Nat.le_refl _)]; rfl
      have E1 := hide e1
      clear e1
      have sl := fun W => slice_lo W ao k cap (k : Int) k rfl (Nat.le_refl _)
      have hs1 := hs.cut k k (Nat.le_refl _) (Nat.le_refl _)
      generalize cutA ao cap k = A at sl hs1
      rw [show (xs.take k).drop k = [] from List.drop_eq_nil_of_le (by rw [List.length_take]; omega), Nat.sub_self] at hs1
      simp only [Nat.sub_self] at sl
      go_wp2_with (at_builtin; refine wpList_appN _ rfl (.tmp 17) (.tmp 20) rfl w.heap.size (.slice (some ⟨w.heap.size, 0, none⟩) 0 0) [] rfl (OwnB.lit _ [] _ 0 rfl rfl (Nat.le_refl _) (by decide)) A 0 (cap - k) [] rfl (hs1.alloc _) 0 (by simp) (.inl (by simp)) (by omega) (by simp) ?_; intro g1 c1 w1 ho1 hb1 hl1 hc1 hm1 hg1)
      go_ret
      rw [E1.out]
      exact ⟨g1, c1, rfl, ho1, ((Below.refl _ _).alloc (Nat.le_refl _) _).grown hg1 (by simp) (by intro k hk; cases hk; exact Nat.le_refl _)⟩

end Go.Proofs.Ytmkfdfjpfinbpaa
