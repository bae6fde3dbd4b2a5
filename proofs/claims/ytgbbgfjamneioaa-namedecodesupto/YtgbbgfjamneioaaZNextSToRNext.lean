/-
  The number with which a content begins (nextS): how great it is and how many bytes it has, or what is wrong with it first. No program.
  A number that is read has just so many bytes as its size says: the first byte says something, so none is idle. No program.
  oid.behind lays a digit behind a number, or gives up.
  The document's Next: the number at a place of a content, the place behind it, or what is wrong with it (nextS).
-/
import Derived.Test.YtgbbgfjamneioaaZMoreIToRRow
import Derived.Test.YtgbbgfjamneioaaZOSize
import Derived.Deep.QuietTactic
import Derived.BigQuiet
namespace Go.Proofs.Ytgbbgfjamneioaa
open Go.RowKit Go.IntWalk

/-- Behind k bytes that make n: the number, how many bytes it has, and what is wrong (0: nothing). -/
def nextGo (n : Int) (k : Nat) : List Int → Int × Nat × Int
  | [] => (0, 0, 10)
  | x :: l => if 2147483647 < 128 * n + x % 128 then (0, 0, 31) else if x < 128 then (128 * n + x % 128, k + 1, 0) else nextGo (128 * n + x % 128) (k + 1) l

def nextS (l : List Int) : Int × Nat × Int := if l.head? = some 128 then (0, 0, 30) else nextGo 0 0 l

theorem nextGo_nil (n : Int) (k : Nat) : nextGo n k [] = (0, 0, 10) := rfl

theorem drop_at (xs : List Int) (p : Nat) (h : p < xs.length) : xs.drop p = xs.getD p 0 :: xs.drop (p + 1) := by
  rw [List.drop_eq_getElem_cons h]
  simp [List.getD, List.getElem?_eq_getElem h]

theorem nextGo_great (xs : List Int) (p : Nat) (n : Int) (k : Nat) (h : p < xs.length) (hg : 2147483647 < 128 * n + xs.getD p 0 % 128) : nextGo n k (xs.drop p) = (0, 0, 31) := by
  rw [drop_at xs p h, nextGo, if_pos hg]

theorem nextGo_last (xs : List Int) (p : Nat) (n : Int) (k : Nat) (h : p < xs.length) (hg : ¬ 2147483647 < 128 * n + xs.getD p 0 % 128) (hx : xs.getD p 0 < 128) : nextGo n k (xs.drop p) = (128 * n + xs.getD p 0 % 128, k + 1, 0) := by
  rw [drop_at xs p h, nextGo, if_neg hg, if_pos hx]

theorem nextGo_more (xs : List Int) (p : Nat) (n : Int) (k : Nat) (h : p < xs.length) (hg : ¬ 2147483647 < 128 * n + xs.getD p 0 % 128) (hx : ¬ xs.getD p 0 < 128) : nextGo n k (xs.drop p) = nextGo (128 * n + xs.getD p 0 % 128) (k + 1) (xs.drop (p + 1)) := by
  rw [drop_at xs p h, nextGo, if_neg hg, if_neg hx]

theorem nextS_pad (xs : List Int) (p : Nat) (h : p < xs.length) (hx : xs.getD p 0 = 128) : nextS (xs.drop p) = (0, 0, 30) := by
  unfold nextS
  rw [drop_at xs p h, List.head?_cons, if_pos (by rw [hx])]

theorem nextS_go (xs : List Int) (p : Nat) (h : p < xs.length) (hx : xs.getD p 0 ≠ 128) : nextS (xs.drop p) = nextGo 0 0 (xs.drop p) := by
  unfold nextS
  rw [drop_at xs p h, List.head?_cons, if_neg (by simpa using hx)]

theorem nextS_end (xs : List Int) (p : Nat) (h : ¬ p < xs.length) : nextS (xs.drop p) = (0, 0, 10) := by
  rw [List.drop_of_length_le (by omega)]
  rfl

/-- What is handed out is a number in range, of at least one byte, within the content. -/
theorem nextGo_in : ∀ (l : List Int) (n : Int) (k : Nat), 0 ≤ n → (nextGo n k l).2.2 = 0 → 0 ≤ (nextGo n k l).1 ∧ (nextGo n k l).1 ≤ 2147483647 ∧ k < (nextGo n k l).2.1 ∧ (nextGo n k l).2.1 ≤ k + l.length
  | [], n, k, _, h => by simp [nextGo] at h
  | x :: l, n, k, h0, h => by
    rw [nextGo] at h ⊢
    split at h
    · simp at h
    · rename_i hg
      rw [if_neg hg]
      split at h
      · rename_i hx
        rw [if_pos hx]
        simp only [List.length_cons]
        omega
      · rename_i hx
        rw [if_neg hx]
        have := nextGo_in l (128 * n + x % 128) (k + 1) (by omega) h
        simp only [List.length_cons]
        omega

theorem nextS_in (l : List Int) (h : (nextS l).2.2 = 0) : 0 ≤ (nextS l).1 ∧ (nextS l).1 ≤ 2147483647 ∧ 0 < (nextS l).2.1 ∧ (nextS l).2.1 ≤ l.length := by
  unfold nextS at h ⊢
  split at h
  · simp at h
  · rename_i hp
    rw [if_neg hp]
    have := nextGo_in l 0 0 (by omega) h
    omega

end Go.Proofs.Ytgbbgfjamneioaa

namespace Go.Proofs.Ytgbbgfjamneioaa

/-- k bytes have been read, the first of them not idle. -/
def digInv (N : Int) (k : Nat) : Prop := (k = 1 ∧ 1 ≤ N ∧ N < 128) ∨ (k = 2 ∧ 128 ≤ N ∧ N < 16384) ∨ (k = 3 ∧ 16384 ≤ N ∧ N < 2097152) ∨ (k = 4 ∧ 2097152 ≤ N ∧ N < 268435456) ∨ (k = 5 ∧ 268435456 ≤ N)

theorem digInv_next {N x : Int} {k : Nat} (h : digInv N k) (hx : ¬ 2147483647 < 128 * N + x % 128) : digInv (128 * N + x % 128) (k + 1) ∧ sizeS (128 * N + x % 128) = ((k + 1 : Nat) : Int) := by
  rcases h with ⟨rfl, h1, h2⟩ | ⟨rfl, h1, h2⟩ | ⟨rfl, h1, h2⟩ | ⟨rfl, h1, h2⟩ | ⟨rfl, h1⟩
  · exact ⟨.inr (.inl ⟨rfl, by omega, by omega⟩), by unfold sizeS; rw [if_neg (by omega), if_pos (by omega)]; rfl⟩
  · exact ⟨.inr (.inr (.inl ⟨rfl, by omega, by omega⟩)), by unfold sizeS; rw [if_neg (by omega), if_neg (by omega), if_pos (by omega)]; rfl⟩
  · exact ⟨.inr (.inr (.inr (.inl ⟨rfl, by omega, by omega⟩))), by unfold sizeS; rw [if_neg (by omega), if_neg (by omega), if_neg (by omega), if_pos (by omega)]; rfl⟩
  · exact ⟨.inr (.inr (.inr (.inr ⟨rfl, by omega⟩))), by unfold sizeS; rw [if_neg (by omega), if_neg (by omega), if_neg (by omega), if_neg (by omega)]; rfl⟩
  · omega

theorem nextGo_size : ∀ (l : List Int) (N : Int) (k : Nat), digInv N k → (nextGo N k l).2.2 = 0 → sizeS (nextGo N k l).1 = ((nextGo N k l).2.1 : Int)
  | [], N, k, _, h => by simp [nextGo] at h
  | x :: l, N, k, hi, h => by
    rw [nextGo] at h ⊢
    split at h
    · simp at h
    · rename_i hg
      rw [if_neg hg]
      obtain ⟨h1, h2⟩ := digInv_next hi hg
      split at h
      · rename_i hx
        rw [if_pos hx]
        exact h2
      · rename_i hx
        rw [if_neg hx]
        exact nextGo_size l _ _ h1 h

theorem nextS_size (l : List Int) (hb : ∀ x ∈ l, 0 ≤ x ∧ x < 256) (h : (nextS l).2.2 = 0) : sizeS (nextS l).1 = ((nextS l).2.1 : Int) := by
  unfold nextS at h ⊢
  split at h
  · simp at h
  · rename_i hp
    rw [if_neg hp]
    cases l with
    | nil => simp [nextGo] at h
    | cons x l =>
      have hx := hb x (List.mem_cons_self ..)
      have hne : x ≠ 128 := by intro e; apply hp; rw [List.head?_cons, e]
      rw [nextGo] at h ⊢
      split at h
      · simp at h
      · rename_i hg
        rw [if_neg hg]
        split at h
        · rename_i h8
          rw [if_pos h8]
          show sizeS (128 * 0 + x % 128) = ((0 + 1 : Nat) : Int)
          unfold sizeS
          rw [if_pos (by omega)]
          rfl
        · rename_i h8
          rw [if_neg h8]
          exact nextGo_size l _ _ (.inl ⟨rfl, by omega, by omega⟩) h

end Go.Proofs.Ytgbbgfjamneioaa

namespace Go.Proofs.Ytgbbgfjamneioaa
open Go.RowKit Go.IntWalk

/-- Giving up with an error. -/
def errP (e : Int) : List PanicEntry := [{ v := .iface 25 (.int .i64 e), recovered := false }]

set_option maxRecDepth 100000 in
set_option maxHeartbeats 1000000 in
theorem behind_fits (n r d a : Int) (w : World) (h0 : 0 ≤ n) (h1 : n ≤ 2147483647) (hr : r = 128 ∨ r = 10) (hd0 : 0 ≤ d) (hd : d < r) (hf : n * r + d ≤ 2147483647) :
    Calls Try.prog 70 #[.int .i64 n, .int .i64 r, .int .i64 d, .int .i64 a] w fun e w' => e = .returned (.int .i64 (n * r + d)) ∧ w' = w := by
  rcases hr with rfl | rfl
  · have q1 : ¬ (2147483647 - d) / 128 < n := by omega
    have q2 : Int.tdiv (2147483647 - d) 128 = (2147483647 - d) / 128 := Int.tdiv_eq_ediv_of_nonneg (by omega)
    go_enter Try.func70, Try.ntmps70
    go_wp2
    go_ret
    exact ⟨rfl, rfl⟩
  · have q1 : ¬ (2147483647 - d) / 10 < n := by omega
    have q2 : Int.tdiv (2147483647 - d) 10 = (2147483647 - d) / 10 := Int.tdiv_eq_ediv_of_nonneg (by omega)
    go_enter Try.func70, Try.ntmps70
    go_wp2
    go_ret
    exact ⟨rfl, rfl⟩

set_option maxRecDepth 100000 in
set_option maxHeartbeats 1000000 in
theorem behind_not (n r d a : Int) (w : World) (h0 : 0 ≤ n) (h1 : n ≤ 2147483647) (hr : r = 128 ∨ r = 10) (hd0 : 0 ≤ d) (hd : d < r) (hf : 2147483647 < n * r + d) :
    Calls Try.prog 70 #[.int .i64 n, .int .i64 r, .int .i64 d, .int .i64 a] w fun e w' => e = .panicked (errP a) ∧ w' = w := by
  rcases hr with rfl | rfl
  · have q1 : (2147483647 - d) / 128 < n := by omega
    have q2 : Int.tdiv (2147483647 - d) 128 = (2147483647 - d) / 128 := Int.tdiv_eq_ediv_of_nonneg (by omega)
    go_enter Try.func70, Try.ntmps70
    go_wp2
    exact ⟨rfl, rfl, rfl⟩
  · have q1 : (2147483647 - d) / 10 < n := by omega
    have q2 : Int.tdiv (2147483647 - d) 10 = (2147483647 - d) / 10 := Int.tdiv_eq_ediv_of_nonneg (by omega)
    go_enter Try.func70, Try.ntmps70
    go_wp2
    exact ⟨rfl, rfl, rfl⟩

end Go.Proofs.Ytgbbgfjamneioaa

namespace Go.Proofs.Ytgbbgfjamneioaa
open Go.RowKit Go.IntWalk

theorem Src.spotB {w : World} {ao : Option Addr} {n cap : Nat} {xs : List Int} (h : Src w ao n cap xs) (k : Nat) (hk : k < n) : ∃ b off, ao = some ⟨b, off, none⟩ ∧ w.cell? ⟨b, off + k, none⟩ = some (.int .u8 (xs.getD k 0)) ∧ 0 ≤ xs.getD k 0 ∧ xs.getD k 0 < 256 := by
  have hl : k < xs.length := by rw [h.hlen]; exact hk
  obtain ⟨b, off, he, hc⟩ := h.hrd (by intro h0; rw [h0] at hl; simp at hl)
  refine ⟨b, off, he, hc k hl, ?_⟩
  have := h.hbyt (xs.getD k 0) (by simp [List.getD, List.getElem?_eq_getElem hl])
  exact this

/-- What Next answers at the place p. -/
def nextV (p : Nat) (r : Int × Nat × Int) : Value := .tuple #[.int .i64 r.1, .int .i64 (if r.2.2 = 0 then (p : Int) + (r.2.1 : Int) else 0), .int .i64 r.2.2]


end Go.Proofs.Ytgbbgfjamneioaa
