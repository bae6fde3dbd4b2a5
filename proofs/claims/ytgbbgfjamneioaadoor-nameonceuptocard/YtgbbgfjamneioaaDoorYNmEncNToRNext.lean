/-
  name.Encode: the bytes of a name.
  The number with which a content begins (nextS): how great it is and how many bytes it has, or what is wrong with it first. No program.
  A number that is read has just so many bytes as its size says: the first byte says something, so none is idle. No program.
  oid.behind lays a digit behind a number, or gives up.
  The document's Next: the number at a place of a content, the place behind it, or what is wrong with it (nextS).
-/
import Derived.Test.YtgbbgfjamneioaaDoorYNmEnc
import Derived.Test.YtgbbgfjamneioaaDoorYBaseToBts
import Derived.Test.YtgbbgfjamneioaaDoorYMoreIToSize
import Derived.Test.YtgbbgfjamneioaaDoorYMayToOSize
import Derived.Deep.QuietTactic
import Derived.BigQuiet
namespace Go.Proofs.YtgbbgfjamneioaaDoor
open Go.RowKit Go.IntWalk Go.Shelf

/-- The bytes of the attributes. -/
def encR (xs : List (Int × ByteArray)) : List Int := (xs.map (fun x => encA x.1 x.2)).flatten
theorem encR_snoc (xs : List (Int × ByteArray)) (k : Nat) (h : k < xs.length) : encR (xs.take (k + 1)) = encR (xs.take k) ++ encA (xs.getD k (0, ByteArray.empty)).1 (xs.getD k (0, ByteArray.empty)).2 := by
  unfold encR
  rw [List.take_succ_eq_append_getElem h, List.map_append, List.flatten_append]
  simp [List.getD, h]
theorem encR_byte (xs : List (Int × ByteArray)) : Byt (encR xs) := by
  intro x hx
  unfold encR at hx
  obtain ⟨l, hl, hx⟩ := List.mem_flatten.1 hx
  obtain ⟨y, _, rfl⟩ := List.mem_map.1 hl
  exact encA_byte _ _ x hx
/-- The bytes of a name, or none; and the error's number. -/
def encNC (xs : List (Int × ByteArray)) : List Int := if nameL xs = true then putB 48 [encR xs] else []
def encNE (xs : List (Int × ByteArray)) : Int := if nameL xs = true then 0 else 120
theorem encNC_byte (xs : List (Int × ByteArray)) : Byt (encNC xs) := by
  unfold encNC
  split
  · exact putB_byte _ _ (fun l hl => by simp at hl; subst hl; exact encR_byte _)
  · intro x hx; cases hx

theorem putB_len (tag : Int) (ls : List (List Int)) : (putB tag ls).length ≤ ls.flatten.length + 5 := by
  unfold putB putS
  split
  · simp
  · split
    · simp
    · rename_i h
      have := lenB_len4 ls.flatten.length
      simp only [List.nil_append, List.length_append, List.length_cons, List.length_nil]
      omega
theorem putB_ne (tag : Int) (ls : List (List Int)) (h1 : isTagB tag = true) (h2 : ls.flatten.length ≤ 16777215) : putB tag ls ≠ [] := by
  unfold putB putS
  rw [if_neg (by simp [h1]), if_neg (by omega)]
  simp
theorem idB_len (t : Int) : (idB t).length ≤ 20 := by
  unfold idB encC encS
  split
  · have h1 := flat_len ([2, 5, 4, t].drop 2)
    have h2 := numB_len (40 * [2, 5, 4, t].getD 0 0 + [2, 5, 4, t].getD 1 0)
    have h3 := sizeS_in (40 * [2, 5, 4, t].getD 0 0 + [2, 5, 4, t].getD 1 0)
    rw [List.length_append]
    simp only [List.drop_succ_cons, List.drop_zero, List.length_cons, List.length_nil] at h1 ⊢
    omega
  · simp
theorem encA_ne (t : Int) (s : ByteArray) (hs : s.size ≤ 1048576) : encA t s ≠ [] := by
  unfold encA
  refine putB_ne _ _ (by decide) ?_
  have h1 := putB_len 48 [putB 6 [idB t], putB (kindL s.data.toList).1 [nums s.data.toList]]
  have h2 := putB_len 6 [idB t]
  have h3 := putB_len (kindL s.data.toList).1 [nums s.data.toList]
  have h4 := idB_len t
  have h5 : (nums s.data.toList).length = s.size := by unfold nums; rw [List.length_map, size_len]
  simp only [List.flatten_cons, List.flatten_nil, List.append_nil, List.length_append] at h1 h2 h3 ⊢
  omega
theorem encA_len (t : Int) (s : ByteArray) (hs : s.size ≤ 1048576) : (encA t s).length ≤ 1100000 := by
  unfold encA
  have h0 := putB_len 49 [putB 48 [putB 6 [idB t], putB (kindL s.data.toList).1 [nums s.data.toList]]]
  have h1 := putB_len 48 [putB 6 [idB t], putB (kindL s.data.toList).1 [nums s.data.toList]]
  have h2 := putB_len 6 [idB t]
  have h3 := putB_len (kindL s.data.toList).1 [nums s.data.toList]
  have h4 := idB_len t
  have h5 : (nums s.data.toList).length = s.size := by unfold nums; rw [List.length_map, size_len]
  simp only [List.flatten_cons, List.flatten_nil, List.append_nil, List.length_append] at h0 h1 h2 h3 ⊢
  omega
theorem encR_len (xs : List (Int × ByteArray)) (k : Nat) (hk : k ≤ xs.length) (hz : ∀ x ∈ xs, x.2.size ≤ 1048576) : (encR (xs.take k)).length ≤ k * 1100000 := by
  induction k with
  | zero => simp [encR]
  | succ k ih =>
    rw [encR_snoc xs k (by omega), List.length_append]
    have h1 := encA_len (xs.getD k (0, ByteArray.empty)).1 (xs.getD k (0, ByteArray.empty)).2 (hz _ (getD_mem (by omega)))
    have h2 := ih (by omega)
    omega
theorem attr_type {t : Int} {l : List UInt8} (h : attrL t l = true) : 0 ≤ t ∧ t ≤ 255 := by
  unfold attrL at h
  split at h
  · omega
  · split at h
    · omega
    · rw [Bool.and_eq_true] at h
      have := of_decide_eq_true h.1
      omega

set_option maxRecDepth 100000 in
set_option maxHeartbeats 2000000 in
theorem encodeN_any (ao : Option Addr) (n cap : Nat) (xs : List (Int × ByteArray)) (w : World) (hA : Ats w ao n cap xs) (hz : ∀ x ∈ xs, x.2.size ≤ 1048576) :
    Calls Tryd.prog 8 #[.slice ao n cap] w fun e w' => ∃ a m c, e = .returned (.tuple #[.slice a m c, .int .i64 (encNE xs)]) ∧ OwnB w' w.heap.size (.slice a m c) (encNC xs) ∧ Below w.heap.size w w' := by
  have hM := hide (mayN_any ao n cap xs w hA (fun x hx => by have := hz x hx; omega))
  have HL := hide hA.hl
  have hc := hA.hcap
  have hm := hA.hmax
  unfold maxLen at hm
  have HA := hide hA
  have HZ := hide hz
  clear hA hz
  cases hN : nameL xs with
  | false =>
    have e1 : encNC xs = [] := by unfold encNC; rw [hN]; rfl
    have e2 : encNE xs = 120 := by unfold encNE; rw [hN]; rfl
    rw [e1, e2]
    rw [hN] at hM
    clear hN e1 e2
    go_enter Tryd.func8, Tryd.ntmps8
    go_wp2_with fail
    refine hM.out.mono ?_
    rintro e w1 ⟨rfl, B1⟩
    go_wp2
    refine bodyPost_ret (v := .tuple #[.slice none 0 0, .int .i64 120]) (by simp [results, Tryd.results8, go_sem]) rfl ⟨none, 0, 0, rfl, OwnB.nil _ _, B1⟩
  | true =>
    have e1 : encNC xs = (putS [] 48 [encR xs]).1 := by unfold encNC; rw [hN]; rfl
    have e2 : encNE xs = 0 := by unfold encNE; rw [hN]; rfl
    have h16 : n ≤ 16 := by
      unfold nameL at hN
      rw [Bool.and_eq_true] at hN
      have := of_decide_eq_true hN.1
      rw [HL.out] at this
      exact this
    have HAT : Hid (∀ x ∈ xs, attrL x.1 x.2.data.toList = true) := by
      unfold nameL at hN
      rw [Bool.and_eq_true] at hN
      exact List.all_eq_true.1 hN.2
    rw [e1, e2]
    rw [hN] at hM
    clear hN e1 e2
    go_enter Tryd.func8, Tryd.ntmps8
    go_wp2_with fail
    refine hM.out.mono ?_
    rintro e w1 ⟨rfl, B1⟩
    have HB := hide B1
    clear B1 hM
    go_wp2
    go_loopw [4, 12] (fun cv v wr => ∃ (aC : Option Addr) (mC cC k : Nat), cv = .slice aC mC cC ∧ v = .int .i64 k ∧ k ≤ n ∧ Hid (OwnB wr w.heap.size (.slice aC mC cC) (encR (xs.take k)) ∧ Below w.heap.size w wr)) (fun _ v _ => n - (intOf v).toNat)
    case atStart => exact ⟨none, 0, 0, 0, rfl, rfl, Nat.zero_le _, OwnB.nil _ _, HB.out⟩
    case round =>
      obtain ⟨aC, mC, cC, k, rfl, rfl, hk, HQ⟩ := hrel
      by_cases hlt : k < n
      · have ltI : (k : Int) < (n : Int) := by omega
        obtain ⟨b, off, rfl, hcl⟩ := (HA.out.below HQ.out.2).hrd (by omega)
        obtain ⟨c0, c1⟩ := hcl k hlt
        have hsn := hide (encR_snoc xs k (by rw [HL.out]; exact hlt))
        have hmem := getD_mem (xs := xs) (i := k) (by rw [HL.out]; exact hlt)
        have hsz := HZ.out _ hmem
        have hty := attr_type (HAT.out _ hmem)
        have hln := hide (encR_len xs k (by rw [HL.out]; exact hk) HZ.out)
        generalize xs.getD k (0, ByteArray.empty) = x at c0 c1 hsn hsz hty
        obtain ⟨t, s⟩ := x
        simp only [] at c0 c1 hsz hty
        clear hcl hmem
        replace hsn : Hid (encR (xs.take (k + 1)) = encR (xs.take k) ++ encA t s) := hsn.out
        have hE := hide (fun W => encoded_any t s hty hsz W)
        have hne := hide (encA_ne t s hsz)
        have hAl := hide (encA_len t s hsz)
        have hAb := hide (encA_byte t s)
        generalize encA t s = E at hE hne hAl hsn hAb
        have B2 := hide (HQ.out.2.alloc HQ.out.2.size (.cells #[.int .i64 t, .string s] 52))
        have O2 := hide (HQ.out.1.alloc (.cells #[.int .i64 t, .string s] 52))
        go_wp2_with fail
        refine (hE.out _).mono ?_
        rintro e w2 ⟨x2, m2, c2, rfl, o2, L2⟩
        have B3 := hide (B2.out.trans (L2.mono B2.out.size))
        have O3 := hide (O2.out.belowA L2)
        have S2 := hide (o2.toSrc hAb.out)
        clear o2 L2 B2 O2 hE
        go_wp2_with (at_builtin; refine wpList_appN _ rfl (.tmp 16) (.tmp 18) rfl w.heap.size (.slice aC mC cC) (encR (xs.take k)) rfl O3.out x2 m2 c2 E rfl S2.out ((encR (xs.take k)).length + E.length) (by rw [List.length_append]) (.inr hne.out) (by have := hln.out; have := hAl.out; omega) B3.out.size ?_; intro g3 c3 w3 ho3 hb3 hl3 hc3 hm3 hg3)
        go_roundw
        case rel => exact ⟨some ⟨g3, 0, none⟩, (encR (xs.take k)).length + E.length, c3, k + 1, rfl, by simp, by omega, by rw [hsn.out]; exact ho3, B3.out.grown hg3 B3.out.size (fun j hj => (O3.out.lt j hj).1)⟩
        case measure => simp [intOf]; omega
      · have ltI : ¬ (k : Int) < (n : Int) := by omega
        obtain rfl : k = n := by omega
        have hx : xs.take k = xs := List.take_of_length_le (by rw [HL.out]; omega)
        rw [hx] at HQ
        have S0 := HQ.out.1.toSrc (encR_byte xs)
        have hb := nbelow wr (.cells #[.slice aC mC cC] 25)
        have r0 : (wr.alloc (.cells #[.slice aC mC cC] 25)).cell? ⟨wr.heap.size, 0, none⟩ = some (.slice aC mC cC) := by simp
        have hP := hide (nput_any 48 _ 1 1 _ _ _ (Parts.one r0 (S0.below hb)) (by decide))
        have B2 := hide (HQ.out.2.trans (hb.mono HQ.out.2.size))
        clear S0 hb r0
        go_wp2_with fail
        refine hP.out.mono ?_
        rintro e w2 ⟨x2, m2, c2, rfl, o2, L2⟩
        go_wp2
        refine bodyPost_ret (v := .tuple #[.slice x2 m2 c2, .int .i64 0]) (by simp [results, Tryd.results8, go_sem]) rfl ⟨x2, m2, c2, rfl, o2.rebase B2.out.size, B2.out.trans (L2.mono B2.out.size)⟩

end Go.Proofs.YtgbbgfjamneioaaDoor

namespace Go.Proofs.YtgbbgfjamneioaaDoor
open Go.RowKit Go.IntWalk

/-- Behind k bytes that make n: the number, how many bytes it has, and what is wrong (0: nothing). -/
def nextGo (n : Int) (k : Nat) : List Int → Int × Nat × Int
  | [] => (0, 0, 10)
  | x :: l => if 2147483647 < 128 * n + x % 128 then (0, 0, 31) else if x < 128 then (128 * n + x % 128, k + 1, 0) else nextGo (128 * n + x % 128) (k + 1) l

def nextS (l : List Int) : Int × Nat × Int := if l.head? = some 128 then (0, 0, 30) else nextGo 0 0 l

theorem nextGo_nil (n : Int) (k : Nat) : nextGo n k [] = (0, 0, 10) := rfl

theorem drop_at (xs : List Int) (p : Nat) (h : p < xs.length) : xs.drop p = xs.getD p 0 :: xs.drop (p + 1) := by
  rw [List.drop_eq_getElem_cons h]
  simp [List.getD, List.getElem?_eq_getElem h]

theorem nextGo_great (xs : List Int) (p : Nat) (n : Int) (k : Nat) (h : p < xs.length) (hg : 2147483647 < 128 * n + xs.getD p 0 % 128) : nextGo n k (xs.drop p) = (0, 0, 31) := by
  rw [drop_at xs p h, nextGo, if_pos hg]

theorem nextGo_last (xs : List Int) (p : Nat) (n : Int) (k : Nat) (h : p < xs.length) (hg : ¬ 2147483647 < 128 * n + xs.getD p 0 % 128) (hx : xs.getD p 0 < 128) : nextGo n k (xs.drop p) = (128 * n + xs.getD p 0 % 128, k + 1, 0) := by
  rw [drop_at xs p h, nextGo, if_neg hg, if_pos hx]

theorem nextGo_more (xs : List Int) (p : Nat) (n : Int) (k : Nat) (h : p < xs.length) (hg : ¬ 2147483647 < 128 * n + xs.getD p 0 % 128) (hx : ¬ xs.getD p 0 < 128) : nextGo n k (xs.drop p) = nextGo (128 * n + xs.getD p 0 % 128) (k + 1) (xs.drop (p + 1)) := by
  rw [drop_at xs p h, nextGo, if_neg hg, if_neg hx]

theorem nextS_pad (xs : List Int) (p : Nat) (h : p < xs.length) (hx : xs.getD p 0 = 128) : nextS (xs.drop p) = (0, 0, 30) := by
  unfold nextS
  rw [drop_at xs p h, List.head?_cons, if_pos (by rw [hx])]

theorem nextS_go (xs : List Int) (p : Nat) (h : p < xs.length) (hx : xs.getD p 0 ≠ 128) : nextS (xs.drop p) = nextGo 0 0 (xs.drop p) := by
  unfold nextS
  rw [drop_at xs p h, List.head?_cons, if_neg (by simpa using hx)]

theorem nextS_end (xs : List Int) (p : Nat) (h : ¬ p < xs.length) : nextS (xs.drop p) = (0, 0, 10) := by
  rw [List.drop_of_length_le (by omega)]
  rfl

/-- What is handed out is a number in range, of at least one byte, within the content. -/
theorem nextGo_in : ∀ (l : List Int) (n : Int) (k : Nat), 0 ≤ n → (nextGo n k l).2.2 = 0 → 0 ≤ (nextGo n k l).1 ∧ (nextGo n k l).1 ≤ 2147483647 ∧ k < (nextGo n k l).2.1 ∧ (nextGo n k l).2.1 ≤ k + l.length
  | [], n, k, _, h => by simp [nextGo] at h
  | x :: l, n, k, h0, h => by
    rw [nextGo] at h ⊢
    split at h
    · simp at h
    · rename_i hg
      rw [if_neg hg]
      split at h
      · rename_i hx
        rw [if_pos hx]
        simp only [List.length_cons]
        omega
      · rename_i hx
        rw [if_neg hx]
        have := nextGo_in l (128 * n + x % 128) (k + 1) (by omega) h
        simp only [List.length_cons]
        omega

theorem nextS_in (l : List Int) (h : (nextS l).2.2 = 0) : 0 ≤ (nextS l).1 ∧ (nextS l).1 ≤ 2147483647 ∧ 0 < (nextS l).2.1 ∧ (nextS l).2.1 ≤ l.length := by
  unfold nextS at h ⊢
  split at h
  · simp at h
  · rename_i hp
    rw [if_neg hp]
    have := nextGo_in l 0 0 (by omega) h
    omega

end Go.Proofs.YtgbbgfjamneioaaDoor

namespace Go.Proofs.YtgbbgfjamneioaaDoor

/-- k bytes have been read, the first of them not idle. -/
def digInv (N : Int) (k : Nat) : Prop := (k = 1 ∧ 1 ≤ N ∧ N < 128) ∨ (k = 2 ∧ 128 ≤ N ∧ N < 16384) ∨ (k = 3 ∧ 16384 ≤ N ∧ N < 2097152) ∨ (k = 4 ∧ 2097152 ≤ N ∧ N < 268435456) ∨ (k = 5 ∧ 268435456 ≤ N)

theorem digInv_next {N x : Int} {k : Nat} (h : digInv N k) (hx : ¬ 2147483647 < 128 * N + x % 128) : digInv (128 * N + x % 128) (k + 1) ∧ sizeS (128 * N + x % 128) = ((k + 1 : Nat) : Int) := by
  rcases h with ⟨rfl, h1, h2⟩ | ⟨rfl, h1, h2⟩ | ⟨rfl, h1, h2⟩ | ⟨rfl, h1, h2⟩ | ⟨rfl, h1⟩
  · exact ⟨.inr (.inl ⟨rfl, by omega, by omega⟩), by unfold sizeS; rw [if_neg (by omega), if_pos (by omega)]; rfl⟩
  · exact ⟨.inr (.inr (.inl ⟨rfl, by omega, by omega⟩)), by unfold sizeS; rw [if_neg (by omega), if_neg (by omega), if_pos (by omega)]; rfl⟩
  · exact ⟨.inr (.inr (.inr (.inl ⟨rfl, by omega, by omega⟩))), by unfold sizeS; rw [if_neg (by omega), if_neg (by omega), if_neg (by omega), if_pos (by omega)]; rfl⟩
  · exact ⟨.inr (.inr (.inr (.inr ⟨rfl, by omega⟩))), by unfold sizeS; rw [if_neg (by omega), if_neg (by omega), if_neg (by omega), if_neg (by omega)]; rfl⟩
  · omega

theorem nextGo_size : ∀ (l : List Int) (N : Int) (k : Nat), digInv N k → (nextGo N k l).2.2 = 0 → sizeS (nextGo N k l).1 = ((nextGo N k l).2.1 : Int)
  | [], N, k, _, h => by simp [nextGo] at h
  | x :: l, N, k, hi, h => by
    rw [nextGo] at h ⊢
    split at h
    · simp at h
    · rename_i hg
      rw [if_neg hg]
      obtain ⟨h1, h2⟩ := digInv_next hi hg
      split at h
      · rename_i hx
        rw [if_pos hx]
        exact h2
      · rename_i hx
        rw [if_neg hx]
        exact nextGo_size l _ _ h1 h

theorem nextS_size (l : List Int) (hb : ∀ x ∈ l, 0 ≤ x ∧ x < 256) (h : (nextS l).2.2 = 0) : sizeS (nextS l).1 = ((nextS l).2.1 : Int) := by
  unfold nextS at h ⊢
  split at h
  · simp at h
  · rename_i hp
    rw [if_neg hp]
    cases l with
    | nil => simp [nextGo] at h
    | cons x l =>
      have hx := hb x (List.mem_cons_self ..)
      have hne : x ≠ 128 := by intro e; apply hp; rw [List.head?_cons, e]
      rw [nextGo] at h ⊢
      split at h
      · simp at h
      · rename_i hg
        rw [if_neg hg]
        split at h
        · rename_i h8
          rw [if_pos h8]
          show sizeS (128 * 0 + x % 128) = ((0 + 1 : Nat) : Int)
          unfold sizeS
          rw [if_pos (by omega)]
          rfl
        · rename_i h8
          rw [if_neg h8]
          exact nextGo_size l _ _ (.inl ⟨rfl, by omega, by omega⟩) h

end Go.Proofs.YtgbbgfjamneioaaDoor

namespace Go.Proofs.YtgbbgfjamneioaaDoor
open Go.RowKit Go.IntWalk

/-- Giving up with an error. -/
def errP (e : Int) : List PanicEntry := [{ v := .iface 26 (.int .i64 e), recovered := false }]

set_option maxRecDepth 100000 in
set_option maxHeartbeats 1000000 in
theorem behind_fits (n r d a : Int) (w : World) (h0 : 0 ≤ n) (h1 : n ≤ 2147483647) (hr : r = 128 ∨ r = 10) (hd0 : 0 ≤ d) (hd : d < r) (hf : n * r + d ≤ 2147483647) :
    Calls Tryd.prog 110 #[.int .i64 n, .int .i64 r, .int .i64 d, .int .i64 a] w fun e w' => e = .returned (.int .i64 (n * r + d)) ∧ w' = w := by
  rcases hr with rfl | rfl
  · have q1 : ¬ (2147483647 - d) / 128 < n := by omega
    have q2 : Int.tdiv (2147483647 - d) 128 = (2147483647 - d) / 128 := Int.tdiv_eq_ediv_of_nonneg (by omega)
    go_enter Tryd.func110, Tryd.ntmps110
    go_wp2
    go_ret
    exact ⟨rfl, rfl⟩
  · have q1 : ¬ (2147483647 - d) / 10 < n := by omega
    have q2 : Int.tdiv (2147483647 - d) 10 = (2147483647 - d) / 10 := Int.tdiv_eq_ediv_of_nonneg (by omega)
    go_enter Tryd.func110, Tryd.ntmps110
    go_wp2
    go_ret
    exact ⟨rfl, rfl⟩

set_option maxRecDepth 100000 in
set_option maxHeartbeats 1000000 in
theorem behind_not (n r d a : Int) (w : World) (h0 : 0 ≤ n) (h1 : n ≤ 2147483647) (hr : r = 128 ∨ r = 10) (hd0 : 0 ≤ d) (hd : d < r) (hf : 2147483647 < n * r + d) :
    Calls Tryd.prog 110 #[.int .i64 n, .int .i64 r, .int .i64 d, .int .i64 a] w fun e w' => e = .panicked (errP a) ∧ w' = w := by
  rcases hr with rfl | rfl
  · have q1 : (2147483647 - d) / 128 < n := by omega
    have q2 : Int.tdiv (2147483647 - d) 128 = (2147483647 - d) / 128 := Int.tdiv_eq_ediv_of_nonneg (by omega)
    go_enter Tryd.func110, Tryd.ntmps110
    go_wp2
    exact ⟨rfl, rfl, rfl⟩
  · have q1 : (2147483647 - d) / 10 < n := by omega
    have q2 : Int.tdiv (2147483647 - d) 10 = (2147483647 - d) / 10 := Int.tdiv_eq_ediv_of_nonneg (by omega)
    go_enter Tryd.func110, Tryd.ntmps110
    go_wp2
    exact ⟨rfl, rfl, rfl⟩

end Go.Proofs.YtgbbgfjamneioaaDoor

namespace Go.Proofs.YtgbbgfjamneioaaDoor
open Go.RowKit Go.IntWalk

theorem Src.spotB {w : World} {ao : Option Addr} {n cap : Nat} {xs : List Int} (h : Src w ao n cap xs) (k : Nat) (hk : k < n) : ∃ b off, ao = some ⟨b, off, none⟩ ∧ w.cell? ⟨b, off + k, none⟩ = some (.int .u8 (xs.getD k 0)) ∧ 0 ≤ xs.getD k 0 ∧ xs.getD k 0 < 256 := by
  have hl : k < xs.length := by rw [h.hlen]; exact hk
  obtain ⟨b, off, he, hc⟩ := h.hrd (by intro h0; rw [h0] at hl; simp at hl)
  refine ⟨b, off, he, hc k hl, ?_⟩
  have := h.hbyt (xs.getD k 0) (by simp [List.getD, List.getElem?_eq_getElem hl])
  exact this

/-- What Next answers at the place p. -/
def nextV (p : Nat) (r : Int × Nat × Int) : Value := .tuple #[.int .i64 r.1, .int .i64 (if r.2.2 = 0 then (p : Int) + (r.2.1 : Int) else 0), .int .i64 r.2.2]


end Go.Proofs.YtgbbgfjamneioaaDoor
