/-
  The statements' own helpers over elements: 'right' makes an element that may be of any one; 'alike' says whether two elements are the same.
-/
import Derived.Test.YtodhlmnjfkbocaaPut
import Derived.Test.YtodhlmnjfkbocaaMore
import Derived.Test.YtodhlmnjfkbocaaRound
import Derived.Laws.Bits64
import Derived.Lib.Bytes
namespace Go.Proofs.Ytodhlmnjfkbocaa
open Go.RowKit Go.IntWalk

/-- The tag that 'right' makes of a number. -/
def rtag (t : Int) : Int := if t % 256 % 32 = 31 then t % 256 - 1 else t % 256

theorem rtag_tag (t : Int) : isTagB (rtag t) = true := by
  unfold rtag isTagB
  split
  · simp; omega
  · simp; omega

theorem Src.takeN {w : World} {ao : Option Addr} {n cap : Nat} {xs : List Int} (h : Src w ao n cap xs) (m : Nat) (hm : m ≤ n) : Src w ao m cap (xs.take m) := by
  obtain ⟨h1, h2, h3, h4, h5, h6⟩ := h
  refine ⟨by simp; omega, by omega, h3, fun e => by have := h4 e; omega, ?_, fun x hx => h6 x (List.mem_of_mem_take hx)⟩
  intro hne
  obtain ⟨b, off, he, hc⟩ := h5 (by intro e; rw [e] at hne; simp at hne)
  refine ⟨b, off, he, fun i hi => ?_⟩
  have hi' : i < m ∧ i < xs.length := by simp at hi; omega
  rw [hc i hi'.2]
  simp [List.getD, hi'.1]

theorem Src.minN {w : World} {ao : Option Addr} {n n' cap : Nat} {xs : List Int} (h : Src w ao n cap xs) (hn : Hid (n' = min n 1048576)) : Src w ao n' cap (xs.take 1048576) := by
  have hn := hn.out
  subst hn
  rcases Nat.le_total n 1048576 with h1 | h1
  · rw [List.take_of_length_le (by rw [h.hlen]; exact h1), Nat.min_eq_left h1]; exact h
  · rw [Nat.min_eq_right h1]; exact h.takeN _ h1

set_option maxRecDepth 100000 in
set_option maxHeartbeats 2000000 in
theorem right_any (t : Int) (a : Option Addr) (n c : Nat) (xs : List Int) (w : World) (hs : Src w a n c xs) :
    Calls Try.prog 19 #[.agg #[.int .i64 t, .slice a n c]] w fun e w' => ∃ n', e = .returned (.agg #[.int .i64 (rtag t), .slice a n' c]) ∧ Hid (n' = min n 1048576) ∧ Below w.heap.size w w' := by
  have hnc := hs.hcap
  have hmx := hs.hmax
  unfold maxLen at hmx
  obtain ⟨U, hU⟩ : ∃ U, IntKind.u64.wrap t = U := ⟨_, rfl⟩
  have u0 : 0 ≤ U := by rw [← hU, IntKind.wrap_u64]; omega
  have HU := hide (show U % 256 = t % 256 by rw [← hU, IntKind.wrap_u64]; omega)
  have v0 : 0 ≤ U % 256 := by omega
  have v1 : U % 256 ≤ 255 := by omega
  by_cases h1 : U % 32 = 31
  · have E := hide (show rtag t = U % 256 - 1 by unfold rtag; rw [← HU.out, if_pos (by omega)])
    have h1' : (U % 32 == 31) = true := by simp [h1]
    clear h1
    by_cases h2 : 1048576 < (n : Int)
    · go_enter Try.func19, Try.ntmps19
      go_wp2
      refine bodyPost_ret (v := .agg #[.int .i64 (U % 256 - 1), .slice a 1048576 c]) (by simp [results, Try.results19, go_sem]) rfl ⟨1048576, by rw [E.out], by unfold Hid; omega, ((Below.refl _ _).alloc (Nat.le_refl _) _).alloc (by simp) _⟩
    · go_enter Try.func19, Try.ntmps19
      go_wp2
      refine bodyPost_ret (v := .agg #[.int .i64 (U % 256 - 1), .slice a n c]) (by simp [results, Try.results19, go_sem]) rfl ⟨n, by rw [E.out], by unfold Hid; omega, ((Below.refl _ _).alloc (Nat.le_refl _) _).alloc (by simp) _⟩
  · have E := hide (show rtag t = U % 256 by unfold rtag; rw [← HU.out, if_neg (by omega)])
    have h1' : (U % 32 == 31) = false := by simp [h1]
    clear h1
    by_cases h2 : 1048576 < (n : Int)
    · go_enter Try.func19, Try.ntmps19
      go_wp2
      refine bodyPost_ret (v := .agg #[.int .i64 (U % 256), .slice a 1048576 c]) (by simp [results, Try.results19, go_sem]) rfl ⟨1048576, by rw [E.out], by unfold Hid; omega, ((Below.refl _ _).alloc (Nat.le_refl _) _).alloc (by simp) _⟩
    · go_enter Try.func19, Try.ntmps19
      go_wp2
      refine bodyPost_ret (v := .agg #[.int .i64 (U % 256), .slice a n c]) (by simp [results, Try.results19, go_sem]) rfl ⟨n, by rw [E.out], by unfold Hid; omega, ((Below.refl _ _).alloc (Nat.le_refl _) _).alloc (by simp) _⟩

theorem map_byte_inj : ∀ {xs ys : List Int}, (∀ x ∈ xs, 0 ≤ x ∧ x < 256) → (∀ x ∈ ys, 0 ≤ x ∧ x < 256) → xs.map (fun n => UInt8.ofNat n.toNat) = ys.map (fun n => UInt8.ofNat n.toNat) → xs = ys
  | [], [], _, _, _ => rfl
  | [], _ :: _, _, _, h => by simp at h
  | _ :: _, [], _, _, h => by simp at h
  | x :: xs, y :: ys, hx, hy, h => by
    simp only [List.map_cons, List.cons.injEq] at h
    have hx0 := hx x (by simp)
    have hy0 := hy y (by simp)
    have e : x.toNat % 256 = y.toNat % 256 := by
      have := congrArg UInt8.toNat h.1
      simpa [UInt8.toNat_ofNat'] using this
    have e2 : x = y := by omega
    rw [e2, map_byte_inj (fun z hz => hx z (by simp [hz])) (fun z hz => hy z (by simp [hz])) h.2]

/-- Texts of bytes are one just if the bytes are. -/
theorem text_eq {xs ys : List Int} (hx : ∀ x ∈ xs, 0 ≤ x ∧ x < 256) (hy : ∀ x ∈ ys, 0 ≤ x ∧ x < 256) : ((strOfNums xs).toList == (strOfNums ys).toList) = decide (xs = ys) := by
  by_cases h : xs = ys
  · subst h; simp
  · rw [decide_eq_false h]
    apply beq_eq_false_iff_ne.2
    intro he
    rw [Lib.strOfNums_toList, Lib.strOfNums_toList] at he
    exact h (map_byte_inj hx hy he)

/-- Are two elements the same? -/
def alikeB (t u : Int) (xs ys : List Int) : Bool := decide (t = u) && decide (xs = ys)

set_option maxRecDepth 100000 in
set_option maxHeartbeats 1000000 in
theorem alike_any (t u : Int) (a1 : Option Addr) (n1 c1 : Nat) (a2 : Option Addr) (n2 c2 : Nat) (xs ys : List Int) (w : World) (h1 : Src w a1 n1 c1 xs) (h2 : Src w a2 n2 c2 ys) :
    Calls Try.prog 23 #[.agg #[.int .i64 t, .slice a1 n1 c1], .agg #[.int .i64 u, .slice a2 n2 c2]] w fun e w' => e = .returned (.bool (alikeB t u xs ys)) ∧ Below w.heap.size w w' := by
  have t1 := fun o o' => ((h1.alloc o).alloc o').text
  have t2 := fun o o' => ((h2.alloc o).alloc o').text
  have te := text_eq h1.hbyt h2.hbyt
  by_cases ht : t = u
  · have E := hide (show alikeB t u xs ys = decide (xs = ys) by simp [alikeB, ht])
    have ht' : (t == u) = true := by simp [ht]
    clear ht
    go_enter Try.func23, Try.ntmps23
    go_wp2
    go_ret
    rw [E.out]
    exact ⟨rfl, ((Below.refl _ _).alloc (Nat.le_refl _) _).alloc (by simp) _⟩
  · have E := hide (show alikeB t u xs ys = false by simp [alikeB, ht])
    have ht' : (t == u) = false := by simp [ht]
    clear ht te
    go_enter Try.func23, Try.ntmps23
    go_wp2
    go_ret
    rw [E.out]
    exact ⟨rfl, ((Below.refl _ _).alloc (Nat.le_refl _) _).alloc (by simp) _⟩

end Go.Proofs.Ytodhlmnjfkbocaa
