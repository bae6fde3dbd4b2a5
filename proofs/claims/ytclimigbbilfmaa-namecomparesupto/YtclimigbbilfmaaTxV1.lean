/-
  The document's Valid: how far a text is UTF-8.
-/
import Derived.Test.YtclimigbbilfmaaBase
import Derived.Test.YtclimigbbilfmaaMore
import Derived.Test.YtclimigbbilfmaaTxM
namespace Go.Proofs.Ytclimigbbilfmaa
open Go.RowKit Go.IntWalk

/-- Do so many bytes go on with a character? -/
def mores (l : List UInt8) : Nat → Bool
  | 0 => true
  | n + 1 => mores l n && ct l n

theorem mores_stop (l : List UInt8) (k : Nat) (h : ct l k = false) : ∀ n, k < n → mores l n = false
  | 0, hk => by omega
  | n + 1, hk => by
    unfold mores
    by_cases e : k = n
    · subst e; rw [h, Bool.and_false]
    · rw [mores_stop l k h n (by omega), Bool.false_and]

theorem mores_next (l : List UInt8) (k : Nat) (h : mores l k = true) (hc : ct l k = true) : mores l (k + 1) = true := by unfold mores; rw [h, hc]; rfl

/-- The byte at a place behind another one. -/
theorem byte_at (s : ByteArray) (a k : Nat) (h : a + k < s.size) : (s[a + k]'h).toNat = bt (s.data.toList.drop a) k := by
  rw [← get_bt, ByteArray.get!, getElem!_pos s.data (a + k) h]
  rfl

theorem len_at (s : ByteArray) (a : Nat) : (s.data.toList.drop a).length = s.size - a := by rw [List.length_drop, Array.length_toList]; rfl

set_option maxRecDepth 100000 in
set_option maxHeartbeats 1000000 in
theorem more_any (s : ByteArray) (a n : Nat) (hn : n ≤ 3) (hs : s.size ≤ 140737488355328) (ha : a ≤ s.size) (w : World) :
    Calls Try.prog 93 #[.string s, .int .i64 a, .int .i64 n] w fun e w' => e = .returned (.bool (mores (s.data.toList.drop a) n)) ∧ w' = w := by
  have hB := hide (byte_at s a)
  have hL := hide (len_at s a)
  generalize s.data.toList.drop a = l at hB hL ⊢
  go_enter Try.func93, Try.ntmps93
  go_wp2
  go_loop [7] (fun i => ∃ k : Nat, i = .int .i64 k ∧ k ≤ n ∧ Hid (mores l k = true)) (fun i => n - (intOf i).toNat)
  case atStart => exact ⟨0, rfl, by omega, rfl⟩
  case round =>
    obtain ⟨k, rfl, hk, hm⟩ := hrel
    have hno := hide (fun h => mores_stop l k h n)
    have hye := hide (mores_next l k hm.out)
    have hct := hide (ct_iff l k)
    have hn' : Hid (k = n → mores l n = true) := fun e => e ▸ hm.out
    go_wp2
    case roundEnd =>
      refine ⟨⟨k + 1, by simp, by omega, hye.out (hct.out.2 ?_)⟩, by simp [intOf]; omega⟩
      have h1 := hB.out k (by omega)
      have h2 := hL.out
      omega
    all_goals go_ret
    all_goals refine ⟨?_, rfl⟩
    all_goals first
      | (rw [hn'.out (by omega)]; rfl)
      | (have h2 := hL.out
         have h3 : ct l k = false := by
           refine Bool.eq_false_iff.2 fun h => ?_
           have h4 := hct.out.1 h
           first
             | (have h1 := hB.out k (by omega); omega)
             | omega
         rw [hno.out h3 (by omega)]; rfl)

end Go.Proofs.Ytclimigbbilfmaa
