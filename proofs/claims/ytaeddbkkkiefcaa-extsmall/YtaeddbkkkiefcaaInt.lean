/-
  num.Int lays the content of an integer into new memory, as the plain function intS says.
-/
import Derived.Test.YtaeddbkkkiefcaaShort
namespace Go.Proofs.Ytaeddbkkkiefcaa
open Go.RowKit Go.IntWalk

/-- The lowest k bytes of a number, the highest first. -/
def lowS (n : Int) : Nat → List Int
  | 0 => []
  | k + 1 => lowS (n / 256) k ++ [n % 256]

def intS (n : Int) : List Int := shortS (lowS n 8)

theorem lowS_len : ∀ (k : Nat) (n : Int), (lowS n k).length = k
  | 0, _ => rfl
  | k + 1, n => by rw [lowS, List.length_append, lowS_len k]; rfl

theorem lowS_byte : ∀ (k : Nat) (n : Int), ∀ x ∈ lowS n k, 0 ≤ x ∧ x < 256
  | 0, _ => by simp [lowS]
  | k + 1, n => by
    intro x hx
    rw [lowS] at hx
    rcases List.mem_append.1 hx with h | h
    · exact lowS_byte k _ x h
    · simp at h
      omega

theorem lowS_cons : ∀ (k : Nat) (n : Int), lowS n (k + 1) = (n / 256 ^ k % 256) :: lowS n k
  | 0, n => by simp [lowS]
  | k + 1, n => by
    have ih := lowS_cons k (n / 256)
    conv => lhs; rw [lowS, ih]
    conv => rhs; rw [lowS]
    rw [Int.ediv_ediv_of_nonneg (by omega), show (256 : Int) * 256 ^ k = 256 ^ (k + 1) by rw [Int.pow_succ, Int.mul_comm]]
    rfl

theorem intS_byte (n : Int) : ∀ x ∈ intS n, 0 ≤ x ∧ x < 256 := fun x hx => lowS_byte 8 n x (shortS_mem _ _ hx)
theorem intS_len (n : Int) : (intS n).length ≤ 8 := by
  have := shortS_len (lowS n 8)
  rw [lowS_len] at this
  exact this

theorem set_rep (v : Int) (l : List Int) : ∀ m : Nat, (List.replicate (m + 1) 0 ++ l).set m v = List.replicate m 0 ++ v :: l
  | 0 => rfl
  | m + 1 => by
    have := set_rep v l m
    rw [List.replicate_succ, List.cons_append, List.set_cons_succ, this]
    rfl

theorem Try.lenA8 : Try.prog.arrayLen 115 = 8 := by kernel_rfl
theorem Try.elemA8 : Try.prog.elem 115 = 5 := by kernel_rfl
theorem Try.arrA8 : Try.prog.underlying 115 = some (.array (Try.prog.arrayLen 115) (Try.prog.elem 115)) := by rw [Try.lenA8, Try.elemA8]; exact Try.underlying115
theorem Try.sizeA8 (w : World) : (sizeOf (Try.prog.elem 115)).run Try.prog w = .ok 1 w := by rw [Try.elemA8]; kernel_rfl

theorem slice_arr8 (W : World) (b : Nat) : (Instr.sliceAt 115 (.pointer (some ⟨b, 0, none⟩)) none none none).run Try.prog W = .ok (.slice (some ⟨b, 0, none⟩) 8 8) W := by
  rw [run_sliceAt_array_all W _ _ Try.arrA8, Try.sizeA8, Try.lenA8]
  simp [slicedAt, Result.andThen, add_none]

set_option maxRecDepth 100000 in
set_option maxHeartbeats 1000000 in
theorem int_any (n : Int) (w : World) :
    Calls Try.prog 78 #[.int .i64 n] w fun e w' => ∃ ao' c', e = .returned (.slice ao' (intS n).length c') ∧ OwnO w' w.heap.size ao' (intS n).length c' (intS n) ∧ Below w.heap.size w w' := by
  have sl := slice_arr8
  go_enter Try.func78, Try.ntmps78
  go_wp2
  go_loopw [5] (fun i wr => ∃ (k : Nat) (zs : List Int), k ≤ 8 ∧ i = .int .i64 k ∧ OwnT 115 wr w.heap.size (.slice (some ⟨w.heap.size, 0, none⟩) 8 8) zs ∧ Hid (zs = List.replicate (8 - k) 0 ++ lowS n k) ∧ Below w.heap.size w wr) (fun i _ => 8 - (intOf i).toNat)
  case atStart => exact ⟨0, [0, 0, 0, 0, 0, 0, 0, 0], by omega, rfl, own_lit w.heap.size 115 _ 8 rfl (Nat.le_refl _) (by decide), rfl, (Below.refl _ _).alloc (Nat.le_refl _) _⟩
  case round =>
    obtain ⟨k, zs, hk, rfl, hoy, hz, hB⟩ := hrel
    by_cases hlt : k < 8
    · have HL := hide hoy.eqlen
      rcases (show k = 0 ∨ k = 1 ∨ k = 2 ∨ k = 3 ∨ k = 4 ∨ k = 5 ∨ k = 6 ∨ k = 7 by omega) with rfl | rfl | rfl | rfl | rfl | rfl | rfl | rfl
      · have hcell := hoy.cell 7 (by rw [← HL.out]; decide)
        have hfr := hoy.frozen 7
        have hst := hide (hoy.stored 7 (n % 256))
        clear hlt hk
        go_wp2
        go_roundw
        case rel => exact ⟨0 + 1, _, by omega, by go_num, hst.out.1, by rw [Hid, hz.out, set_rep]; rw [show lowS n (0 + 1) = (n % 256) :: lowS n 0 by simpa using lowS_cons 0 n], hB.grown hst.out.2 hB.size (by intro k hk; cases hk; exact Nat.le_refl _)⟩
        case measure => simp [intOf]
      · have hcell := hoy.cell 6 (by rw [← HL.out]; decide)
        have hfr := hoy.frozen 6
        have hst := hide (hoy.stored 6 (n/ 256 % 256))
        clear hlt hk
        go_wp2
        go_roundw
        case rel => exact ⟨1 + 1, _, by omega, by go_num, hst.out.1, by rw [Hid, hz.out, set_rep]; rw [show lowS n (1 + 1) = (n/ 256 % 256) :: lowS n 1 by simpa using lowS_cons 1 n], hB.grown hst.out.2 hB.size (by intro k hk; cases hk; exact Nat.le_refl _)⟩
        case measure => simp [intOf]
      · have hcell := hoy.cell 5 (by rw [← HL.out]; decide)
        have hfr := hoy.frozen 5
        have hst := hide (hoy.stored 5 (n/ 65536 % 256))
        clear hlt hk
        go_wp2
        go_roundw
        case rel => exact ⟨2 + 1, _, by omega, by go_num, hst.out.1, by rw [Hid, hz.out, set_rep]; rw [show lowS n (2 + 1) = (n/ 65536 % 256) :: lowS n 2 by simpa using lowS_cons 2 n], hB.grown hst.out.2 hB.size (by intro k hk; cases hk; exact Nat.le_refl _)⟩
        case measure => simp [intOf]
      · have hcell := hoy.cell 4 (by rw [← HL.out]; decide)
        have hfr := hoy.frozen 4
        have hst := hide (hoy.stored 4 (n/ 16777216 % 256))
        clear hlt hk
        go_wp2
        go_roundw
        case rel => exact ⟨3 + 1, _, by omega, by go_num, hst.out.1, by rw [Hid, hz.out, set_rep]; rw [show lowS n (3 + 1) = (n/ 16777216 % 256) :: lowS n 3 by simpa using lowS_cons 3 n], hB.grown hst.out.2 hB.size (by intro k hk; cases hk; exact Nat.le_refl _)⟩
        case measure => simp [intOf]
      · have hcell := hoy.cell 3 (by rw [← HL.out]; decide)
        have hfr := hoy.frozen 3
        have hst := hide (hoy.stored 3 (n/ 4294967296 % 256))
        clear hlt hk
        go_wp2
        go_roundw
        case rel => exact ⟨4 + 1, _, by omega, by go_num, hst.out.1, by rw [Hid, hz.out, set_rep]; rw [show lowS n (4 + 1) = (n/ 4294967296 % 256) :: lowS n 4 by simpa using lowS_cons 4 n], hB.grown hst.out.2 hB.size (by intro k hk; cases hk; exact Nat.le_refl _)⟩
        case measure => simp [intOf]
      · have hcell := hoy.cell 2 (by rw [← HL.out]; decide)
        have hfr := hoy.frozen 2
        have hst := hide (hoy.stored 2 (n/ 1099511627776 % 256))
        clear hlt hk
        go_wp2
        go_roundw
        case rel => exact ⟨5 + 1, _, by omega, by go_num, hst.out.1, by rw [Hid, hz.out, set_rep]; rw [show lowS n (5 + 1) = (n/ 1099511627776 % 256) :: lowS n 5 by simpa using lowS_cons 5 n], hB.grown hst.out.2 hB.size (by intro k hk; cases hk; exact Nat.le_refl _)⟩
        case measure => simp [intOf]
      · have hcell := hoy.cell 1 (by rw [← HL.out]; decide)
        have hfr := hoy.frozen 1
        have hst := hide (hoy.stored 1 (n/ 281474976710656 % 256))
        clear hlt hk
        go_wp2
        go_roundw
        case rel => exact ⟨6 + 1, _, by omega, by go_num, hst.out.1, by rw [Hid, hz.out, set_rep]; rw [show lowS n (6 + 1) = (n/ 281474976710656 % 256) :: lowS n 6 by simpa using lowS_cons 6 n], hB.grown hst.out.2 hB.size (by intro k hk; cases hk; exact Nat.le_refl _)⟩
        case measure => simp [intOf]
      · have hcell := hoy.cell 0 (by rw [← HL.out]; decide)
        have hfr := hoy.frozen 0
        have hst := hide (hoy.stored 0 (n/ 72057594037927936 % 256))
        clear hlt hk
        go_wp2
        go_roundw
        case rel => exact ⟨7 + 1, _, by omega, by go_num, hst.out.1, by rw [Hid, hz.out, set_rep]; rw [show lowS n (7 + 1) = (n/ 72057594037927936 % 256) :: lowS n 7 by simpa using lowS_cons 7 n], hB.grown hst.out.2 hB.size (by intro k hk; cases hk; exact Nat.le_refl _)⟩
        case measure => simp [intOf]
    · obtain rfl : k = 8 := by omega
      have hz8 : zs = lowS n 8 := hz.out
      subst hz8
      clear hlt hk
      go_wp2_with fail
      refine (shortest_any w.heap.size _ _ _ (lowS n 8) _ (lowS_byte 8 n) (.inr ⟨115, w.heap.size, [], rfl, Nat.le_refl _, by simp only [List.nil_append, List.length_nil, Nat.zero_add]; exact hoy⟩)).mono ?_
      rintro e w2 ⟨ao', c', rfl, ho2, hd⟩
      go_wp2
      go_ret
      exact ⟨ao', c', rfl, ho2, hd.below hB⟩

end Go.Proofs.Ytaeddbkkkiefcaa
