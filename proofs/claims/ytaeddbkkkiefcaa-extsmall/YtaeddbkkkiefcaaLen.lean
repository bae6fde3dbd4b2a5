/-
  The reference's Length at a number from 0 to 2^24 - 1 answers the bytes of that length, in new memory.
-/
import Derived.Test.YtaeddbkkkiefcaaChecked
import Derived.Test.YtaeddbkkkiefcaaMath
import Derived.Test.YtaeddbkkkiefcaaBts
namespace Go.Proofs.Ytaeddbkkkiefcaa
open Go.RowKit


set_option maxRecDepth 100000 in
set_option maxHeartbeats 1000000 in
theorem length_any (n : Nat) (w : World) (h : (n : Int) ≤ 16777215) :
    Calls Try.prog 80 #[.int .i64 n] w fun e w' => ∃ v, e = .returned v ∧ w'.ownsRow w.heap.size 5 1 v (lenB n).length ((lenB n).map (Value.int .u8)) ∧ Below w.heap.size w w' := by
  obtain ⟨i0, hi, hz0, hz1, hz2⟩ := info_parts Try.infoB
  by_cases hs : (n : Int) < 128
  · go_enter Try.func80, Try.ntmps80
    go_wp2
    go_ret
    have e1 : lenB n = [(n : Int)] := by unfold lenB; rw [if_pos (by omega)]
    rw [e1]
    exact ⟨_, rfl, own_lit _ _ [_] 1 rfl (Nat.le_refl _) (by decide), (Below.refl _ _).alloc (Nat.le_refl _) _⟩
  · go_enter Try.func80, Try.ntmps80
    go_wp2
    go_loopw [0, 3] (fun s v wr => ∃ (m : Nat) (xs : List Int), m ≤ n ∧ s = .int .i64 m ∧ Hid (digs n = digs m ++ xs) ∧ xs.length ≤ 3 ∧ wr.ownsRow w.heap.size 5 1 v xs.length (xs.map (Value.int .u8)) ∧ Below w.heap.size w wr)
      (fun s _ _ => (intOf s).toNat)
    case atStart => exact ⟨n, [], Nat.le_refl _, rfl, by simp [Hid], by simp, World.ownsRow_nil _ _ _ _, Below.refl _ _⟩
    case round =>
      obtain ⟨m, xs, hm, rfl, hd, hxl, hown, hbel⟩ := hrel
      have hsz := hbel.size
      have hgt : ¬ n < 128 := by omega
      by_cases hm0 : (m : Int) = 0
      · obtain rfl : m = 0 := by omega
        obtain rfl : digs n = xs := by simpa [digs_zero] using hd.out
        have hdl := digs_len n
        have hlb : lenB n = (128 + ((digs n).length : Int)) :: digs n := by unfold lenB; rw [if_neg hgt]
        have hne : digs n ≠ [] := by unfold digs; rw [if_neg (by omega)]; split <;> (try split) <;> simp
        have HL := hide hlb
        clear hlb hd hxl
        rcases own_split hown with ⟨_, he, hx⟩ | ⟨g, cap, rfl, hbg, hgs, hnc, hcm⟩
        · simp at hx; exact absurd hx hne
        · clear hne
          generalize digs n = xs at *
          go_wp2_with (at_builtin; refine wpList_append_own _ rfl _ _ 27 rfl w.heap.size 5 i0 (.int .u8 0) 1 1 Try.underlying27 hi hz0 hz1 hz2 rfl (by decide) _ 1 [.int .u8 (128 + (xs.length : Int))] rfl (own_lit _ _ [_] 1 rfl hsz (by decide)) ⟨g, 0, none⟩ xs.length cap (xs.map (Value.int .u8)) rfl (by simp) (own_cells (hown.alloc _)) (ints_one _ _) (by unfold maxLen; omega) (by omega) (by simp; omega) ?_; intro v' w' ho' hg' _)
          go_ret
          rw [unhide HL]
          refine ⟨_, rfl, ?_, ?_⟩
          · simpa [Nat.add_comm] using ho'
          · exact (hbel.alloc hsz _).grown hg' (by simp; omega) (by intro k hk; cases hk; exact hsz)
      · have hst := digs_step m (by omega) (by omega)
        have HS := hide hst
        clear hst
        rcases own_split hown with ⟨rfl, he, hx⟩ | ⟨g, cap, rfl, hbg, hgs, hnc, hcm⟩
        · obtain rfl : xs = [] := by simpa using hx
          clear he hx
          go_wp2_with (at_builtin; refine wpList_append_own_none rfl _ _ 27 rfl w.heap.size 5 i0 1 Try.underlying27 hi _ 1 [.int .u8 (m % 256)] rfl (own_lit _ _ [_] 1 rfl hsz (by decide)) rfl ?_)
          go_roundw
          case rel => exact ⟨m / 256, [((m % 256 : Nat) : Int)], by omega, by go_num, by unfold Hid; rw [hd.out, unhide HS]; simp, by simp, own_lit _ _ [_] 1 rfl hsz (by decide), hbel.alloc hsz _⟩
          case measure => simp [intOf]; omega
        · go_wp2_with (at_builtin; refine wpList_append_own _ rfl _ _ 27 rfl w.heap.size 5 i0 (.int .u8 0) 1 1 Try.underlying27 hi hz0 hz1 hz2 rfl (by decide) _ 1 [.int .u8 (m % 256)] rfl (own_lit _ _ [_] 1 rfl hsz (by decide)) ⟨g, 0, none⟩ xs.length cap (xs.map (Value.int .u8)) rfl (by simp) (own_cells (hown.alloc _)) (ints_one _ _) (by unfold maxLen; omega) (by omega) (by simp; omega) ?_; intro v' w' ho' hg' _)
          go_roundw
          case rel =>
            have hl3 := digs_len n
            rw [hd.out, unhide HS] at hl3
            simp at hl3
            exact ⟨m / 256, ((m % 256 : Nat) : Int) :: xs, by omega, by go_num, by unfold Hid; rw [hd.out, unhide HS]; simp, by simp; omega, by simpa [Nat.add_comm] using ho', (hbel.alloc hsz _).grown hg' (by simp; omega) (by intro k hk; cases hk; exact hsz)⟩
          case measure => simp [intOf]; omega

end Go.Proofs.Ytaeddbkkkiefcaa
