/-
  oid.size: how many digits to the base 128 a number has (sizeS); with math/bits.Len, whose text is walked.
  A number that is read has just so many bytes as its size says: the first byte says something, so none is idle. No program.
  oid.behind lays a digit behind a number, or gives up.
  The document's Next: the number at a place of a content, the place behind it, or what is wrong with it (nextS).
  oid.number reads the number with which bytes begin, or gives up (nextS).
  A range over a function, in three steps of its own, so that the function may also give up: the statement is entered; a round; how it ends is told by the library's rangePost. No program.
-/
import Derived.Test.YtklchpdpooikdaaGreatDoorXItsToNextS
import Derived.Lib.Tables
import Derived.Deep.QuietTactic
import Derived.BigQuiet
import Derived.RangeFuncNested
import Derived.RangeFuncIn
import Derived.RangeFuncRecord
namespace Go.Proofs.YtklchpdpooikdaaGreatDoor
open Go.RowKit Go.IntWalk

theorem foldO_len : ({ data := (([0, 1, 2, 2, 3, 3, 3, 3, 4, 4, 4, 4, 4, 4, 4, 4, 5, 5, 5, 5, 5, 5, 5, 5, 5, 5, 5, 5, 5, 5, 5, 5, 6, 6, 6, 6, 6, 6, 6, 6, 6, 6, 6, 6, 6, 6, 6, 6, 6, 6, 6, 6, 6, 6, 6, 6, 6, 6, 6, 6, 6, 6, 6, 6].append [7, 7, 7, 7, 7, 7, 7, 7, 7, 7, 7, 7, 7, 7, 7, 7, 7, 7, 7, 7, 7, 7, 7, 7, 7, 7, 7, 7, 7, 7, 7, 7, 7, 7, 7, 7, 7, 7, 7, 7, 7, 7, 7, 7, 7, 7, 7, 7, 7, 7, 7, 7, 7, 7, 7, 7, 7, 7, 7, 7, 7, 7, 7, 7]).append ([8, 8, 8, 8, 8, 8, 8, 8, 8, 8, 8, 8, 8, 8, 8, 8, 8, 8, 8, 8, 8, 8, 8, 8, 8, 8, 8, 8, 8, 8, 8, 8, 8, 8, 8, 8, 8, 8, 8, 8, 8, 8, 8, 8, 8, 8, 8, 8, 8, 8, 8, 8, 8, 8, 8, 8, 8, 8, 8, 8, 8, 8, 8, 8].append [8, 8, 8, 8, 8, 8, 8, 8, 8, 8, 8, 8, 8, 8, 8, 8, 8, 8, 8, 8, 8, 8, 8, 8, 8, 8, 8, 8, 8, 8, 8, 8, 8, 8, 8, 8, 8, 8, 8, 8, 8, 8, 8, 8, 8, 8, 8, 8, 8, 8, 8, 8, 8, 8, 8, 8, 8, 8, 8, 8, 8, 8, 8, 8])).toArray } : ByteArray) = Go.Lib.len8tab := by decide +kernel
attribute [local go_sem ↓] foldO_len

theorem len8_thr : ∀ b : Nat, b < 256 → (1 ≤ Go.Lib.len8 b ↔ 1 ≤ b) ∧ (Go.Lib.len8 b ≤ 4 ↔ b < 16) ∧ (Go.Lib.len8 b ≤ 5 ↔ b < 32) ∧ (Go.Lib.len8 b ≤ 6 ↔ b < 64) ∧ (Go.Lib.len8 b ≤ 7 ↔ b < 128) ∧ 0 ≤ Go.Lib.len8 b ∧ Go.Lib.len8 b ≤ 8 := by decide +kernel

theorem len8_t (x : Int) (h0 : 0 ≤ x) (h1 : x < 256) : (1 ≤ Go.Lib.len8 x ↔ 1 ≤ x) ∧ (Go.Lib.len8 x ≤ 4 ↔ x < 16) ∧ (Go.Lib.len8 x ≤ 5 ↔ x < 32) ∧ (Go.Lib.len8 x ≤ 6 ↔ x < 64) ∧ (Go.Lib.len8 x ≤ 7 ↔ x < 128) ∧ 0 ≤ Go.Lib.len8 x ∧ Go.Lib.len8 x ≤ 8 := by
  obtain ⟨n, rfl⟩ := Int.eq_ofNat_of_zero_le h0
  have := len8_thr n (by omega)
  omega

/-- How many bits a number below 2^32 has. -/
def lenW (n : Int) : Int := if 65536 ≤ n then (if 16777216 ≤ n then 24 + Go.Lib.len8 (n / 65536 / 256) else 16 + Go.Lib.len8 (n / 65536)) else (if 256 ≤ n then 8 + Go.Lib.len8 (n / 256) else Go.Lib.len8 n)

/-- How many digits to the base 128 it has. -/
def sizeS (n : Int) : Int := if n < 128 then 1 else if n < 16384 then 2 else if n < 2097152 then 3 else if n < 268435456 then 4 else 5

theorem sizeO_len (n : Int) (h0 : 0 ≤ n) (h1 : n < 4294967296) : max 1 ((lenW n + 6) / 7) = sizeS n ∧ 0 ≤ lenW n ∧ lenW n ≤ 32 := by
  unfold lenW sizeS
  by_cases h2 : 65536 ≤ n
  · rw [if_pos h2]
    by_cases h3 : 16777216 ≤ n
    · rw [if_pos h3]
      have := len8_t (n / 65536 / 256) (by omega) (by omega)
      split <;> omega
    · rw [if_neg h3]
      have := len8_t (n / 65536) (by omega) (by omega)
      split <;> omega
  · rw [if_neg h2]
    by_cases h3 : 256 ≤ n
    · rw [if_pos h3]
      have := len8_t (n / 256) (by omega) (by omega)
      split <;> omega
    · rw [if_neg h3]
      have := len8_t n h0 (by omega)
      split <;> omega

set_option maxRecDepth 100000 in
set_option maxHeartbeats 1000000 in
theorem len64_any (n : Int) (h0 : 0 ≤ n) (h1 : n < 4294967296) (w : World) :
    Calls Tryz.prog 192 #[.int .u64 n] w fun e w' => e = .returned (.int .i64 (lenW n)) ∧ w' = w := by
  have g0 : ¬ 4294967296 ≤ n := by omega
  by_cases h2 : 65536 ≤ n
  · have d0 : 0 ≤ n / 65536 := by omega
    have d1 : n / 65536 < 65536 := by omega
    by_cases h3 : 16777216 ≤ n
    · have h4 : 256 ≤ n / 65536 := by omega
      have e1 := hide (show lenW n = 24 + Go.Lib.len8 (n / 65536 / 256) by unfold lenW; rw [if_pos h2, if_pos h3])
      have d2 : 0 ≤ n / 65536 / 256 := by omega
      have d3 : n / 65536 / 256 ≤ 255 := by omega
      have d4 := len8_t (n / 65536 / 256) d2 (by omega)
      obtain ⟨_, _, _, _, _, p0, p1⟩ := d4
      go_enter Tryz.func192, Tryz.ntmps192
      go_wp2
      go_ret
      rw [e1.out]
      exact ⟨by first | rfl | (simp; done), rfl⟩
    · have h4 : ¬ 256 ≤ n / 65536 := by omega
      have e1 := hide (show lenW n = 16 + Go.Lib.len8 (n / 65536) by unfold lenW; rw [if_pos h2, if_neg h3])
      have d3 : n / 65536 ≤ 255 := by omega
      have d4 := len8_t (n / 65536) d0 (by omega)
      obtain ⟨_, _, _, _, _, p0, p1⟩ := d4
      go_enter Tryz.func192, Tryz.ntmps192
      go_wp2
      go_ret
      rw [e1.out]
      exact ⟨by first | rfl | (simp; done), rfl⟩
  · by_cases h3 : 256 ≤ n
    · have e1 := hide (show lenW n = 8 + Go.Lib.len8 (n / 256) by unfold lenW; rw [if_neg h2, if_pos h3])
      have d2 : 0 ≤ n / 256 := by omega
      have d3 : n / 256 ≤ 255 := by omega
      have d4 := len8_t (n / 256) d2 (by omega)
      obtain ⟨_, _, _, _, _, p0, p1⟩ := d4
      go_enter Tryz.func192, Tryz.ntmps192
      go_wp2
      go_ret
      rw [e1.out]
      exact ⟨by first | rfl | (simp; done), rfl⟩
    · have e1 := hide (show lenW n = Go.Lib.len8 n by unfold lenW; rw [if_neg h2, if_neg h3])
      have d3 : n ≤ 255 := by omega
      have d4 := len8_t n h0 (by omega)
      obtain ⟨_, _, _, _, _, p0, p1⟩ := d4
      go_enter Tryz.func192, Tryz.ntmps192
      go_wp2
      go_ret
      rw [e1.out]
      exact ⟨by first | rfl | (simp; done), rfl⟩

theorem len_any (n : Int) (h0 : 0 ≤ n) (h1 : n < 4294967296) (w : World) :
    Calls Tryz.prog 180 #[.int .u64 n] w fun e w' => e = .returned (.int .i64 (lenW n)) ∧ w' = w := by
  go_enter Tryz.func180, Tryz.ntmps180
  go_wp2_with (go_at_call 192; refine (len64_any n h0 h1 _).mono ?_; rintro e w1 ⟨rfl, hw⟩; have hw2 := hw.symm; subst hw2)
  go_ret
  exact ⟨rfl, rfl⟩

set_option maxRecDepth 100000 in
set_option maxHeartbeats 1000000 in
theorem osize_any (n : Int) (h0 : 0 ≤ n) (h1 : n < 4294967296) (w : World) :
    Calls Tryz.prog 170 #[.int .i64 n] w fun e w' => e = .returned (.int .i64 (sizeS n)) ∧ w' = w := by
  obtain ⟨e1, e2, e3⟩ := sizeO_len n h0 h1
  have HE := hide e1
  have hq : Int.tdiv (lenW n + 6) 7 = (lenW n + 6) / 7 := Int.tdiv_eq_ediv_of_nonneg (by omega)
  clear e1
  have hu : IntKind.u64.wrap n = n := by rw [IntKind.wrap_u64]; omega
  obtain ⟨L, hL⟩ : ∃ L, lenW n = L := ⟨_, rfl⟩
  rw [hL] at HE e2 e3 hq
  have HL := hide hL
  clear hL
  go_enter Tryz.func170, Tryz.ntmps170
  go_wp2_with (first | (go_at_call 180; refine (len_any n h0 h1 _).mono ?_; rintro e w1 ⟨rfl, hw⟩; have hw2 := hw.symm; subst hw2; rw [HL.out]))
  all_goals (go_ret; rw [← HE.out]; refine ⟨congrArg Ending.returned (congrArg (Value.int IntKind.i64) ?_), rfl⟩; omega)

end Go.Proofs.YtklchpdpooikdaaGreatDoor

namespace Go.Proofs.YtklchpdpooikdaaGreatDoor

/-- k bytes have been read, the first of them not idle. -/
def digInv (N : Int) (k : Nat) : Prop := (k = 1 ∧ 1 ≤ N ∧ N < 128) ∨ (k = 2 ∧ 128 ≤ N ∧ N < 16384) ∨ (k = 3 ∧ 16384 ≤ N ∧ N < 2097152) ∨ (k = 4 ∧ 2097152 ≤ N ∧ N < 268435456) ∨ (k = 5 ∧ 268435456 ≤ N)

theorem digInv_next {N x : Int} {k : Nat} (h : digInv N k) (hx : ¬ 2147483647 < 128 * N + x % 128) : digInv (128 * N + x % 128) (k + 1) ∧ sizeS (128 * N + x % 128) = ((k + 1 : Nat) : Int) := by
  rcases h with ⟨rfl, h1, h2⟩ | ⟨rfl, h1, h2⟩ | ⟨rfl, h1, h2⟩ | ⟨rfl, h1, h2⟩ | ⟨rfl, h1⟩
  · exact ⟨.inr (.inl ⟨rfl, by omega, by omega⟩), by unfold sizeS; rw [if_neg (by omega), if_pos (by omega)]; rfl⟩
  · exact ⟨.inr (.inr (.inl ⟨rfl, by omega, by omega⟩)), by unfold sizeS; rw [if_neg (by omega), if_neg (by omega), if_pos (by omega)]; rfl⟩
  · exact ⟨.inr (.inr (.inr (.inl ⟨rfl, by omega, by omega⟩))), by unfold sizeS; rw [if_neg (by omega), if_neg (by omega), if_neg (by omega), if_pos (by omega)]; rfl⟩
  · exact ⟨.inr (.inr (.inr (.inr ⟨rfl, by omega⟩))), by unfold sizeS; rw [if_neg (by omega), if_neg (by omega), if_neg (by omega), if_neg (by omega)]; rfl⟩
  · omega

theorem nextGo_size : ∀ (l : List Int) (N : Int) (k : Nat), digInv N k → (nextGo N k l).2.2 = 0 → sizeS (nextGo N k l).1 = ((nextGo N k l).2.1 : Int)
  | [], N, k, _, h => by simp [nextGo] at h
  | x :: l, N, k, hi, h => by
    rw [nextGo] at h ⊢
    split at h
    · simp at h
    · rename_i hg
      rw [if_neg hg]
      obtain ⟨h1, h2⟩ := digInv_next hi hg
      split at h
      · rename_i hx
        rw [if_pos hx]
        exact h2
      · rename_i hx
        rw [if_neg hx]
        exact nextGo_size l _ _ h1 h

theorem nextS_size (l : List Int) (hb : ∀ x ∈ l, 0 ≤ x ∧ x < 256) (h : (nextS l).2.2 = 0) : sizeS (nextS l).1 = ((nextS l).2.1 : Int) := by
  unfold nextS at h ⊢
  split at h
  · simp at h
  · rename_i hp
    rw [if_neg hp]
    cases l with
    | nil => simp [nextGo] at h
    | cons x l =>
      have hx := hb x (List.mem_cons_self ..)
      have hne : x ≠ 128 := by intro e; apply hp; rw [List.head?_cons, e]
      rw [nextGo] at h ⊢
      split at h
      · simp at h
      · rename_i hg
        rw [if_neg hg]
        split at h
        · rename_i h8
          rw [if_pos h8]
          show sizeS (128 * 0 + x % 128) = ((0 + 1 : Nat) : Int)
          unfold sizeS
          rw [if_pos (by omega)]
          rfl
        · rename_i h8
          rw [if_neg h8]
          exact nextGo_size l _ _ (.inl ⟨rfl, by omega, by omega⟩) h

end Go.Proofs.YtklchpdpooikdaaGreatDoor

namespace Go.Proofs.YtklchpdpooikdaaGreatDoor
open Go.RowKit Go.IntWalk

/-- Giving up with an error. -/
def errP (e : Int) : List PanicEntry := [{ v := .iface 24 (.int .i64 e), recovered := false }]

set_option maxRecDepth 100000 in
set_option maxHeartbeats 1000000 in
theorem behind_fits (n r d a : Int) (w : World) (h0 : 0 ≤ n) (h1 : n ≤ 2147483647) (hr : r = 128 ∨ r = 10) (hd0 : 0 ≤ d) (hd : d < r) (hf : n * r + d ≤ 2147483647) :
    Calls Tryz.prog 190 #[.int .i64 n, .int .i64 r, .int .i64 d, .int .i64 a] w fun e w' => e = .returned (.int .i64 (n * r + d)) ∧ w' = w := by
  rcases hr with rfl | rfl
  · have q1 : ¬ (2147483647 - d) / 128 < n := by omega
    have q2 : Int.tdiv (2147483647 - d) 128 = (2147483647 - d) / 128 := Int.tdiv_eq_ediv_of_nonneg (by omega)
    go_enter Tryz.func190, Tryz.ntmps190
    go_wp2
    go_ret
    exact ⟨rfl, rfl⟩
  · have q1 : ¬ (2147483647 - d) / 10 < n := by omega
    have q2 : Int.tdiv (2147483647 - d) 10 = (2147483647 - d) / 10 := Int.tdiv_eq_ediv_of_nonneg (by omega)
    go_enter Tryz.func190, Tryz.ntmps190
    go_wp2
    go_ret
    exact ⟨rfl, rfl⟩

set_option maxRecDepth 100000 in
set_option maxHeartbeats 1000000 in
theorem behind_not (n r d a : Int) (w : World) (h0 : 0 ≤ n) (h1 : n ≤ 2147483647) (hr : r = 128 ∨ r = 10) (hd0 : 0 ≤ d) (hd : d < r) (hf : 2147483647 < n * r + d) :
    Calls Tryz.prog 190 #[.int .i64 n, .int .i64 r, .int .i64 d, .int .i64 a] w fun e w' => e = .panicked (errP a) ∧ w' = w := by
  rcases hr with rfl | rfl
  · have q1 : (2147483647 - d) / 128 < n := by omega
    have q2 : Int.tdiv (2147483647 - d) 128 = (2147483647 - d) / 128 := Int.tdiv_eq_ediv_of_nonneg (by omega)
    go_enter Tryz.func190, Tryz.ntmps190
    go_wp2
    exact ⟨rfl, rfl, rfl⟩
  · have q1 : (2147483647 - d) / 10 < n := by omega
    have q2 : Int.tdiv (2147483647 - d) 10 = (2147483647 - d) / 10 := Int.tdiv_eq_ediv_of_nonneg (by omega)
    go_enter Tryz.func190, Tryz.ntmps190
    go_wp2
    exact ⟨rfl, rfl, rfl⟩

end Go.Proofs.YtklchpdpooikdaaGreatDoor

namespace Go.Proofs.YtklchpdpooikdaaGreatDoor
open Go.RowKit Go.IntWalk

theorem Src.spotB {w : World} {ao : Option Addr} {n cap : Nat} {xs : List Int} (h : Src w ao n cap xs) (k : Nat) (hk : k < n) : ∃ b off, ao = some ⟨b, off, none⟩ ∧ w.cell? ⟨b, off + k, none⟩ = some (.int .u8 (xs.getD k 0)) ∧ 0 ≤ xs.getD k 0 ∧ xs.getD k 0 < 256 := by
  have hl : k < xs.length := by rw [h.hlen]; exact hk
  obtain ⟨b, off, he, hc⟩ := h.hrd (by intro h0; rw [h0] at hl; simp at hl)
  refine ⟨b, off, he, hc k hl, ?_⟩
  have := h.hbyt (xs.getD k 0) (by simp [List.getD, List.getElem?_eq_getElem hl])
  exact this

/-- What Next answers at the place p. -/
def nextV (p : Nat) (r : Int × Nat × Int) : Value := .tuple #[.int .i64 r.1, .int .i64 (if r.2.2 = 0 then (p : Int) + (r.2.1 : Int) else 0), .int .i64 r.2.2]


end Go.Proofs.YtklchpdpooikdaaGreatDoor

namespace Go.Proofs.YtklchpdpooikdaaGreatDoor
open Go.RowKit Go.IntWalk

/-- How the reading of a number ends. -/
def numEnd (r : Int × Nat × Int) : Ending := if r.2.2 = 0 then .returned (.int .i64 r.1) else .panicked (errP r.2.2)

set_option maxRecDepth 100000 in
set_option maxHeartbeats 1000000 in
theorem number_any (ao : Option Addr) (n cap : Nat) (xs : List Int) (w : World) (hs : Src w ao n cap xs) (hN : n ≤ 140737488355328) (hp : 0 < n) :
    Calls Tryz.prog 179 #[.slice ao n cap] w fun e w' => e = numEnd (nextS xs) ∧ Drawn w w' := by
  have HL := hide hs.hlen
  obtain ⟨b, off, rfl, e1, g0, g1⟩ := hs.spotB 0 hp
  rw [Nat.add_zero] at e1
  have pI : (0 : Int) < (n : Int) := by omega
  by_cases hx : xs.getD 0 0 = 128
  · have HV : Hid (nextS xs = (0, 0, 30)) := by unfold Hid; have := nextS_pad xs 0 (by rw [HL.out]; exact hp) hx; simpa using this
    rw [hx] at e1
    clear hx g0 g1
    go_enter Tryz.func179, Tryz.ntmps179
    go_wp2
    exact ⟨rfl, by rw [HV.out]; rfl, Drawn.refl _⟩
  · have HV : Hid (nextS xs = nextGo 0 0 xs) := by unfold Hid; have := nextS_go xs 0 (by rw [HL.out]; exact hp) hx; simpa using this
    have hxb : (xs.getD 0 0 == 128) = false := by simpa using hx
    clear hx
    generalize xs.getD 0 0 = x at e1 hxb
    clear g0 g1
    go_enter Tryz.func179, Tryz.ntmps179
    go_wp2
    clear hxb e1 pI
    go_loopw [3, 5, 13] (fun v _ i wr => ∃ (k : Nat) (N : Int), k ≤ n ∧ i = .int .i64 k ∧ v = .int .i64 N ∧ 0 ≤ N ∧ N ≤ 2147483647 ∧ Hid (nextS xs = nextGo N k (xs.drop k)) ∧ Drawn w wr) (fun _ _ i _ => n - (intOf i).toNat)
    case atStart => exact ⟨0, 0, by omega, rfl, rfl, by omega, by omega, by simpa using HV, Drawn.refl _⟩
    case round =>
      obtain ⟨k, N, hk, rfl, rfl, hN0, hN1, hE, hD⟩ := hrel
      have hs' := hide (hs.heap hD.heap)
      by_cases hl2 : k < n
      · obtain ⟨b2, o2, he, e1, g0, g1⟩ := hs'.out.spotB k hl2
        simp at he
        obtain ⟨rfl, rfl⟩ := he
        have kI : (k : Int) < (n : Int) := by omega
        have hli : Hid (k < xs.length) := by unfold Hid; rw [HL.out]; exact hl2
        have G := hide (nextGo_great xs k N k hli.out)
        have L := hide (nextGo_last xs k N k hli.out)
        have M := hide (nextGo_more xs k N k hli.out)
        generalize xs.getD k 0 = x at e1 g0 g1 G L M
        have r1 : Int.tmod x 128 = x % 128 := Int.tmod_eq_emod_of_nonneg g0
        have hcm : 128 * N = N * 128 := Int.mul_comm _ _
        rw [hcm] at G L M
        clear hcm
        by_cases hg : 2147483647 < N * 128 + x % 128
        · have HE : Hid (nextS xs = (0, 0, 31)) := hE.out.trans (G.out hg)
          have hc := hide (fun W => behind_not N 128 (x % 128) 31 W hN0 hN1 (.inl rfl) (by omega) (by omega) hg)
          go_wp2_with (go_at_call 190; refine (hc.out _).mono ?_; rintro e w3 ⟨rfl, hw3⟩; subst hw3)
          exact ⟨rfl, by rw [HE.out]; rfl, by first | exact hD | exact hD.more _⟩
        · have hc := hide (fun W => behind_fits N 128 (x % 128) 31 W hN0 hN1 (.inl rfl) (by omega) (by omega) (by omega))
          by_cases hx : x < 128
          · have HE : Hid (nextS xs = (N * 128 + x % 128, k + 1, 0)) := hE.out.trans (L.out hg hx)
            generalize hR : N * 128 + x % 128 = R at hc HE
            clear hR
            go_wp2_with (go_at_call 190; refine (hc.out _).mono ?_; rintro e w3 ⟨rfl, hw3⟩; subst hw3)
            go_ret
            exact ⟨by rw [HE.out]; rfl, by first | exact hD | exact hD.more _⟩
          · have HE : Hid (nextS xs = nextGo (N * 128 + x % 128) (k + 1) (xs.drop (k + 1))) := hE.out.trans (M.out hg hx)
            have hR0 : 0 ≤ N * 128 + x % 128 := by omega
            have hR1 : N * 128 + x % 128 ≤ 2147483647 := by omega
            generalize N * 128 + x % 128 = R at hc HE hR0 hR1 hg
            go_wp2_with (go_at_call 190; refine (hc.out _).mono ?_; rintro e w3 ⟨rfl, hw3⟩; subst hw3)
            go_roundw
            case rel => exact ⟨k + 1, R, by omega, by go_num, rfl, hR0, hR1, HE, by first | exact hD | exact hD.more _⟩
            case measure => simp [intOf]; omega
      · have kI : ¬ (k : Int) < (n : Int) := by omega
        have HE : Hid (nextS xs = (0, 0, 10)) := by unfold Hid; rw [hE.out, List.drop_of_length_le (by rw [HL.out]; omega)]; rfl
        go_wp2
        exact ⟨rfl, by rw [HE.out]; rfl, by first | exact hD | exact hD.more _⟩

end Go.Proofs.YtklchpdpooikdaaGreatDoor

namespace Go.Proofs.YtklchpdpooikdaaGreatDoor
open Go.RowKit
variable {F : Fence} {n : Nat} {P : Program}

/-- A loop's record. -/
def recOf (fn : FuncId) (tmps : Array Value) (ps : Array Tmp) (assign body : Code) (D : Nat) (st : LoopState) (pe : Option Code) : Loop :=
  { state := st, pending := pe, fn := fn, tmps := tmps, params := ps, assign := assign, body := body, defers := D }

theorem range_enter {g : Operand} {ps : Array Tmp} {assign body : Code} {Q : Exit → Act → World → Prop} {a : Act} {w : World} (hro : F.round = none) (h1 : 1 ≤ n) {gf : Nat} {lb : Array Value}
    (hg : a.eval g = .func (.func gf) #[] lb) (hFg : F.fn gf) (eg : ∀ args w, (callFunc gf args).run P w = .ok (.enter gf args) w)
    (h : ∀ fn, F.fn fn → CallsIn F (n - 1) P gf (#[.func (.yield (w.heap.size + 1)) #[] #[]] ++ lb) ((w.alloc (.deferred (some []))).alloc (.loop (recOf fn a.tmps ps assign body w.heap.size .ready none)))
      (rangePost F n P (w.heap.size + 1) Q { a with defers := { target := .collected w.heap.size, args := #[] } :: a.defers })) :
    (Code.rangeFunc g ps assign body).wpIn F n P Q a w := by
  refine wpIn_rangeFunc ?_
  intro fn hfn
  have hc := h fn hfn
  obtain ⟨W1, hW1⟩ : ∃ W1, (w.alloc (.deferred (some []))).alloc (.loop (recOf fn a.tmps ps assign body w.heap.size .ready none)) = W1 := ⟨_, rfl⟩
  rw [hW1] at hc
  refine ⟨w.heap.size + 1, [{ target := .collected w.heap.size, args := #[] }], W1, { target := .fn (.func gf) lb, args := #[.func (.yield (w.heap.size + 1)) #[] #[]] }, W1, gf, #[.func (.yield (w.heap.size + 1)) #[] #[]] ++ lb, W1, ?_, ?_, ?_, ?_, fun _ => h1, ?_⟩
  · rw [hro, ← hW1]; unfold recOf; exact run_enterLoop_outer _ _ _ _ _
  · simp only [resolve, hg]
    simp [go_sem]
  · intro f' hf'
    simp [Target.leads] at hf'
    subst hf'
    exact hFg
  · simp [invoke, go_sem, eg]
  · exact hc

/-- How a round's body may end. -/
def rEnd (l : Nat) (r : LoopState → Option Code → Loop) (R : Ending → World → Prop) : Exit → Act → World → Prop
  | .normal, _, W => W.heap[l]? = some (.loop (r .busy none)) ∧ R (.returned (.bool true)) (W.putObj l (.loop (r .ready none)))
  | .ret, _, W => W.heap[l]? = some (.loop (r .busy none)) ∧ R (.returned (.bool false)) (W.putObj l (.loop (r .done (some .ret))))
  | .exit id, _, W => W.heap[l]? = some (.loop (r .busy none)) ∧ R (.returned (.bool false)) (W.putObj l (.loop (r .done (some (.exit id)))))
  | _, _, _ => False

theorem range_round {fn : FuncId} {l D : Nat} {tmps args : Array Value} {ps : Array Tmp} {assign body : Code} {W : World} {a₁ : Act} {R : Ending → World → Prop} (hfn : F.fn fn)
    (hl : W.heap[l]? = some (.loop (recOf fn tmps ps assign body D .ready none))) (hs : args.size = ps.size)
    (hassign : ∀ K : Act → World → Prop, K a₁ W → assign.wpIn (F.inRound l) n P (Exit.then K (fun _ _ _ => False)) { tmps := (ps.zip args).foldl (fun t (p, v) => t.setIfInBounds p v) tmps, defers := [] } W)
    (hbody : body.wpIn (F.inRound l) n P (rEnd l (recOf fn tmps ps assign body D) R) a₁ (W.putObj l (.loop (recOf fn tmps ps assign body D .busy none)))) :
    YieldAt F n P l args W R := by
  refine ⟨fn, _, assign, body, run_yield (P := P) (args := args) hl hs, roundIn_of_wpIn hfn (hassign _ ⟨_, run_beginRound hl rfl, ?_⟩)⟩
  refine wpIn_mono hbody ?_
  rintro e a' W3 h
  cases e with
  | normal => exact ⟨_, _, run_endRound none h.1, h.2⟩
  | ret => exact ⟨_, _, run_endRound (some .ret) h.1, h.2⟩
  | exit id => exact ⟨_, _, run_endRound (some (.exit id)) h.1, h.2⟩
  | goto t => exact h.elim
  | panic c => exact h.elim
  | outgrown => exact h.elim

/-- The function has returned: no round has left, or one has. -/
theorem range_done {fn : FuncId} {l D : Nat} {tmps : Array Value} {ps : Array Tmp} {assign body : Code} {W : World} {Q : Exit → Act → World → Prop} {a : Act} {v : Value}
    (hl : W.heap[l]? = some (.loop (recOf fn tmps ps assign body D .ready none))) (h : Q .normal a (W.putObj l (.loop (recOf fn tmps ps assign body D .exhausted none)))) : rangePost F n P l Q a (.returned v) W :=
  ⟨none, _, run_endLoop hl (by simp [recOf]), h⟩

theorem range_left {fn : FuncId} {l D : Nat} {tmps : Array Value} {ps : Array Tmp} {assign body c : Code} {W : World} {Q : Exit → Act → World → Prop} {a : Act} {v : Value}
    (hl : W.heap[l]? = some (.loop (recOf fn tmps ps assign body D .done (some c)))) (h : c.wpIn F n P Q a (W.putObj l (.loop (recOf fn tmps ps assign body D .exhausted (some c))))) : rangePost F n P l Q a (.returned v) W :=
  ⟨some c, _, run_endLoop hl (by simp [recOf]), h⟩

end Go.Proofs.YtklchpdpooikdaaGreatDoor
