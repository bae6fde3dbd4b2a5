/-
  DerAgain answers true at any bytes, and writes nothing that was there.
  num.isInteger, num.ToInt: what they tell of any bytes, as plain functions.
  Contents of integers that are shortest already. Plain facts.
  sign.Encode: a signature as bytes.
-/
import Derived.Test.YtnabmdpgibnkaabDoorYAgainToAgainM
import Derived.Test.YtnabmdpgibnkaabDoorYAllIt
import Derived.Test.YtnabmdpgibnkaabDoorYMathToPLen
import Derived.Deep.RegionHeld3
import Derived.Test.YtnabmdpgibnkaabDoorYShortToRound
import Derived.Test.YtnabmdpgibnkaabDoorYSgMay
import Derived.Test.YtnabmdpgibnkaabDoorYSpecToPut
namespace Go.Proofs.YtnabmdpgibnkaabDoor
open Go.RowKit Go.IntWalk Go.Shelf

theorem parts_one {w : World} {a : Option Addr} {m c : Nat} {xs : List Int} (h : Src w a m c xs) : Parts (w.alloc (.cells #[.slice a m c] 22)) (some ⟨w.heap.size, 0, none⟩) 1 1 [.slice a m c] [xs] := by
  refine ⟨rfl, rfl, Nat.le_refl _, by decide, fun _ => ⟨w.heap.size, 0, rfl, fun i hi => ?_⟩, fun i hi => ?_⟩
  · obtain rfl : i = 0 := by omega
    simp
  · obtain rfl : i = 0 := by omega
    exact ⟨a, m, c, rfl, h.alloc _⟩

theorem parts_heap {w w' : World} {ao : Option Addr} {n cap : Nat} {vs : List Value} {ls : List (List Int)} (h : Parts w ao n cap vs ls) (e : w'.heap = w.heap) : Parts w' ao n cap vs ls := by
  obtain ⟨h1, h2, h3, h4, h5, h6⟩ := h
  refine ⟨h1, h2, h3, h4, fun hn => ?_, fun i hi => ?_⟩
  · obtain ⟨b, off, he, hc⟩ := h5 hn
    exact ⟨b, off, he, fun i hi => by rw [← hc i hi]; unfold World.cell?; rw [e]⟩
  · obtain ⟨a, m, c, he, hs⟩ := h6 i hi
    exact ⟨a, m, c, he, hs.heap e⟩

end Go.Proofs.YtnabmdpgibnkaabDoor

namespace Go.Proofs.YtnabmdpgibnkaabDoor
open Go.RowKit Go.IntWalk

def isIntS : List Int → Bool
  | [] => false
  | [_] => true
  | x :: y :: _ => !idleS x y

def valF (n : Int) (r : List Int) : Int := r.foldl (fun n x => n * 256 + x) n
def sgn (x : Int) : Int := if 128 ≤ x then x - 256 else x
def valS : List Int → Int
  | [] => 0
  | x :: r => valF (sgn x) r

theorem valF_cons (n x : Int) (r : List Int) : valF n (x :: r) = valF (n * 256 + x) r := rfl
theorem valF_snoc (n x : Int) (r : List Int) : valF n (r ++ [x]) = valF n r * 256 + x := by simp [valF]

theorem valF_in : ∀ (r : List Int) (n A : Int), (∀ x ∈ r, 0 ≤ x ∧ x < 256) → -A ≤ n → n < A → -(A * 256 ^ r.length) ≤ valF n r ∧ valF n r < A * 256 ^ r.length
  | [], n, A, _, h0, h1 => by simp [valF]; omega
  | x :: r, n, A, hb, h0, h1 => by
    have hx := hb x (List.mem_cons_self ..)
    have ih := valF_in r (n * 256 + x) (A * 256) (fun y hy => hb y (List.mem_cons_of_mem _ hy)) (by omega) (by omega)
    rw [valF_cons, List.length_cons, Int.pow_succ]
    rw [Int.mul_assoc A 256, Int.mul_comm 256] at ih
    exact ih

theorem wrap_i8 (x : Int) : IntKind.i8.wrap x = (x + 128) % 256 - 128 := by
  simp [IntKind.wrap, IntKind.bits, IntKind.signed]
  omega

theorem or256w (n d : Int) (h0 : -36028797018963968 ≤ n) (h1 : n < 36028797018963968) (h2 : 0 ≤ d) (h3 : d < 256) : bits .or .i64 (n * 256) d = n * 256 + d := by
  obtain ⟨B, rfl⟩ := Int.eq_ofNat_of_zero_le h2
  obtain ⟨A, hA⟩ := Int.eq_ofNat_of_zero_le (show 0 ≤ n % 72057594037927936 by omega)
  have ka : (BitVec.ofInt 64 (n * 256)).toNat = A * 256 := by rw [BitVec.toNat_ofInt]; omega
  have kb : (BitVec.ofInt 64 (B : Int)).toNat = B := by rw [BitVec.ofInt_natCast, BitVec.toNat_ofNat]; omega
  show IntKind.i64.wrap ((BitVec.ofInt 64 (n * 256) ||| BitVec.ofInt 64 (B : Int)).toNat : Nat) = _
  rw [BitVec.toNat_or, ka, kb]
  have hor : A * 256 ||| B = A * 256 + B := by
    rw [show A * 256 = A <<< 8 by rw [Nat.shiftLeft_eq], ← Nat.shiftLeft_add_eq_or_of_lt (by omega : B < 2 ^ 8)]
  rw [hor, IntKind.wrap_i64]
  omega

set_option maxRecDepth 100000 in
set_option maxHeartbeats 1000000 in
theorem isInteger_any (ao : Option Addr) (n cap : Nat) (xs : List Int) (w : World) (hs : Src w ao n cap xs) :
    Calls Tryd.prog 105 #[.slice ao n cap] w fun e w' => e = .returned (.bool (isIntS xs)) ∧ ∃ q, w' = w.drewN q := by
  have hl := hs.hlen
  match xs, hs, hl with
  | [], hs, hl =>
    obtain rfl : n = 0 := by simpa using hl.symm
    go_enter Tryd.func105, Tryd.ntmps105
    go_wp2_with fail
    go_quiet (fail)
    go_wp2
    go_ret
    exact ⟨rfl, _, rfl⟩
  | [x], hs, hl =>
    obtain rfl : n = 1 := by simpa using hl.symm
    go_enter Tryd.func105, Tryd.ntmps105
    go_wp2_with fail
    go_quiet (fail)
    go_wp2
    go_ret
    exact ⟨rfl, _, rfl⟩
  | x :: y :: r, hs, hl =>
    obtain ⟨q, rfl⟩ : ∃ q, n = q + 2 := ⟨n - 2, by simp at hl; omega⟩
    obtain ⟨b, off, rfl, hc⟩ := hs.hrd (by simp)
    have c0 := hc 0 (by simp)
    have c1 := hc 1 (by simp)
    simp only [Nat.add_zero, List.getD, List.getElem?_cons_zero, List.getElem?_cons_succ, Option.getD_some] at c0 c1
    clear hc
    have g1 : decide ((q : Int) + 2 = 1) = false := by simp; omega
    have g2 : (((q : Int) + 2) == 1) = false := by simp; omega
    have g3 : decide (1 < (q : Int) + 2) = true := by simp; omega
    go_enter Tryd.func105, Tryd.ntmps105
    go_wp2_with fail
    go_quiet ((go_at_call 107; exact Calls.quiet_of_same (idle_any x y _)))
    go_wp2
    go_ret
    exact ⟨rfl, _, rfl⟩

def toIntE (xs : List Int) : Int := if isIntS xs then (if 8 < xs.length then 21 else 0) else 20
def toIntV (xs : List Int) : Int := if isIntS xs then (if 8 < xs.length then 0 else valS xs) else 0

theorem toInt_bad (xs : List Int) (h : isIntS xs = false) : toIntE xs = 20 ∧ toIntV xs = 0 := by simp [toIntE, toIntV, h]
theorem toInt_big (xs : List Int) (h : isIntS xs = true) (h8 : 8 < xs.length) : toIntE xs = 21 ∧ toIntV xs = 0 := by simp [toIntE, toIntV, h, h8]
theorem toInt_ok (xs : List Int) (h : isIntS xs = true) (h8 : ¬ 8 < xs.length) : toIntE xs = 0 ∧ toIntV xs = valS xs := by simp [toIntE, toIntV, h, h8]

theorem take_nextI (r : List Int) (k : Nat) (h : k < r.length) : r.take (k + 1) = r.take k ++ [r.getD k 0] := by
  rw [List.take_add_one]
  simp [List.getD, h]

theorem pow_in (k : Nat) (h : k ≤ 6) (n : Int) (hn : -(128 * 256 ^ k) ≤ n ∧ n < 128 * 256 ^ k) : -36028797018963968 ≤ n ∧ n < 36028797018963968 := by
  rcases (show k = 0 ∨ k = 1 ∨ k = 2 ∨ k = 3 ∨ k = 4 ∨ k = 5 ∨ k = 6 by omega) with rfl | rfl | rfl | rfl | rfl | rfl | rfl <;> simp at hn <;> omega

end Go.Proofs.YtnabmdpgibnkaabDoor

namespace Go.Proofs.YtnabmdpgibnkaabDoor
open Go.RowKit

theorem shortS_fix (x : Int) (r : List Int) (h : isIntS (x :: r) = true) : shortS (x :: r) = x :: r := by
  cases r with
  | nil => rfl
  | cons y r =>
    unfold isIntS at h
    unfold shortS
    rw [if_neg (by simpa using h)]

theorem shortS_ext (x : Int) (r : List Int) (h0 : 0 ≤ x) (h1 : x < 256) (h : isIntS (x :: r) = true) : ∀ k : Nat, shortS (List.replicate k (if 128 ≤ x then 255 else 0) ++ x :: r) = x :: r
  | 0 => shortS_fix x r h
  | 1 => by
    show shortS ((if 128 ≤ x then 255 else 0) :: x :: r) = _
    rw [shortS, if_pos (by unfold idleS; split <;> simp <;> omega), shortS_fix x r h]
  | k + 2 => by
    have ih := shortS_ext x r h0 h1 h (k + 1)
    rw [List.replicate_succ, List.cons_append] at ih ⊢
    rw [List.replicate_succ, List.cons_append, shortS, if_pos (by unfold idleS; split <;> simp)]
    exact ih

end Go.Proofs.YtnabmdpgibnkaabDoor

namespace Go.Proofs.YtnabmdpgibnkaabDoor
open Go.RowKit Go.IntWalk
attribute [local go_sem ↓] ld_dig st_dig ne_dgs bd_dgs

/-- A signature's cells; its bytes. -/
def sgL (R S : List Int) : List Value := bV R ++ bV S
def encB (R S : List Int) : List Int := putB (48, putB (2, natS R) ++ putB (2, natS S))

theorem sgL_one (R S : List Int) : ∀ v ∈ sgL R S, v.oneCell' = true := by
  intro v hv
  rcases List.mem_append.1 hv with hv | hv
  · exact ints_one _ _ v hv
  · exact ints_one _ _ v hv
theorem sgL_len {R S : List Int} (hR : R.length = 32) (hS : S.length = 32) : (sgL R S).length = 64 := by simp [sgL, bV_len, hR, hS]
theorem src_r {T : TypeId} {W : World} {g : Nat} {R S : List Int} (hR : R.length = 32) (dR : Dg 256 R) (h : Blk T W g (sgL R S)) : Src W (some ⟨g, 0, none⟩) 32 32 R := by
  refine ⟨hR, Nat.le_refl _, by decide, by simp, fun _ => ⟨g, 0, rfl, fun i hi => ?_⟩, dR⟩
  rw [h.cell, Nat.zero_add]
  simp [sgL, bV, List.getElem?_append_left, hi, List.getD]
theorem src_s {T : TypeId} {W : World} {g : Nat} {R S : List Int} (hR : R.length = 32) (hS : S.length = 32) (dS : Dg 256 S) (h : Blk T W g (sgL R S)) : Src W (some ⟨g, 32, none⟩) 32 32 S := by
  refine ⟨hS, Nat.le_refl _, by decide, by simp, fun _ => ⟨g, 32, rfl, fun i hi => ?_⟩, dS⟩
  rw [h.cell]
  unfold sgL bV
  rw [List.getElem?_append_right (by simp [hR]), List.length_map, hR, Nat.add_sub_cancel_left]
  simp [hi, List.getD]

theorem natS_bd {xs : List Int} (hx : xs.length = 32) (dx : Dg 256 xs) : (natS xs).length ≤ 33 ∧ Dg 256 (natS xs) := by
  constructor
  · have := shortS_len (0 :: xs)
    unfold natS
    simp [hx] at this
    omega
  · intro x h
    rcases List.mem_cons.1 (shortS_mem _ _ h) with rfl | h
    · omega
    · exact dx x h
theorem lenB_low {n : Nat} (h : n < 128) : lenB n = [(n : Int)] := by unfold lenB; rw [if_pos h]
theorem putB_bd {t : Int} {c : List Int} (ht : 0 ≤ t ∧ t < 256) (hc : c.length < 128) (dc : Dg 256 c) : (putB (t, c)).length = c.length + 2 ∧ Dg 256 (putB (t, c)) := by
  unfold putB
  dsimp only
  rw [lenB_low hc]
  constructor
  · simp
  · intro x hx
    simp only [List.cons_append, List.nil_append, List.mem_cons] at hx
    rcases hx with rfl | rfl | hx
    · exact ht
    · omega
    · exact dc x hx
theorem putS_at (bs : List Int) (t : Int) (c : List Int) (ht : isTagB t = true) (hl : c.length < 128) : putS bs t [c] = (bs ++ putB (t, c), 0) := by
  unfold putS putB
  rw [if_neg (by rw [ht]; decide), if_neg (by simp; omega)]
  simp
theorem src_none (w : World) : Src w none 0 0 [] := ⟨rfl, Nat.le_refl _, by decide, fun _ => ⟨rfl, rfl⟩, fun h => absurd rfl h, fun _ h => by cases h⟩

set_option maxRecDepth 100000 in
set_option maxHeartbeats 2000000 in
theorem enc_any (R S : List Int) (hR : R.length = 32) (hS' : S.length = 32) (dR : Dg 256 R) (dS : Dg 256 S) (w : World) :
    Calls Tryd.prog 11 #[.agg (sgL R S).toArray] w fun e w' => ∃ a m c, e = .returned (.slice a m c) ∧ OwnB w' w.heap.size (.slice a m c) (encB R S) ∧ Below w.heap.size w w' := by
  obtain ⟨nr1, nr2⟩ := natS_bd hR dR
  obtain ⟨ns1, ns2⟩ := natS_bd hS' dS
  obtain ⟨b1, b2⟩ := putB_bd (t := 2) (by omega) (show (natS R).length < 128 by omega) nr2
  obtain ⟨e1, e2⟩ := putB_bd (t := 2) (by omega) (show (natS S).length < 128 by omega) ns2
  have p1 := putS_at [] 2 (natS R) (by decide) (by omega)
  have p2 := putS_at (putB (2, natS R)) 2 (natS S) (by decide) (by omega)
  have dB : Dg 256 (putB (2, natS R) ++ putB (2, natS S)) := fun x hx => (List.mem_append.1 hx).elim (b2 x) (e2 x)
  have p3 := putS_at [] 48 (putB (2, natS R) ++ putB (2, natS S)) (by decide) (by simp; omega)
  rw [List.nil_append] at p1 p3
  have o1 := sgL_one R S
  have hS : Bx w [(w.heap.size, 26, sgL R S)] (w.alloc (.cells (sgL R S).toArray 26)) := (Bx.nil w).newAt 0 (w.heap.size) (by simp) 26 (sgL R S) _ rfl
  have HSR : Hid (∀ W, Blk 26 W w.heap.size (sgL R S) → Src W (some ⟨w.heap.size, 0, none⟩) 32 32 R) := fun W h => src_r hR dR h
  have HSS : Hid (∀ W, Blk 26 W w.heap.size (sgL R S) → Src W (some ⟨w.heap.size, 32, none⟩) 32 32 S) := fun W h => src_s hR hS' dS h
  have hbd : Hid ((putB (2, natS R)).length ≤ 35 ∧ (putB (2, natS R) ++ putB (2, natS S)).length ≤ 70) := ⟨by omega, by rw [List.length_append]; omega⟩
  have HE : Hid (encB R S = putB (48, putB (2, natS R) ++ putB (2, natS S))) := rfl
  have N1 := hide nr2
  have N2 := hide ns2
  have B2 := hide b2
  have DB := hide dB
  have P1 := hide p1
  have P2 := hide p2
  have P3 := hide p3
  generalize encB R S = EB at *
  generalize putB (48, putB (2, natS R) ++ putB (2, natS S)) = E3 at *
  generalize hC2 : putB (2, natS R) ++ putB (2, natS S) = C2 at *
  generalize putB (2, natS R) = C1 at *
  generalize hNR : natS R = NR at *
  generalize hNS : natS S = NS at *
  generalize sgL R S = LG at *
  clear hC2 nr1 nr2 ns1 ns2 b1 b2 e1 e2 p1 p2 dB p3 hR hS' dR dS
  have HNR := hide hNR
  have HNS := hide hNS
  clear hNR hNS
  go_enter Tryd.func11, Tryd.ntmps11
  go_wp2_with fail
  refine (nat_any _ _ _ R _ (HSR.out _ (hS.get 0 rfl)) (by decide)).mono ?_
  rw [HNR.out]
  rintro e U1 ⟨a1, c1, rfl, O1, LB⟩
  have hS := hS.below LB
  have s1 := O1.src N1.out
  clear LB o1 O1
  generalize NR.length = n1 at s1 ⊢
  go_wp2_with fail
  refine (put_any none 0 0 [] 2 _ 1 1 _ [NR] _ (src_none _) (parts_one s1) (by decide) (by decide)).mono ?_
  rw [P1.out]
  rintro e U2 ⟨a2, m2, c2, rfl, O2, LB⟩
  have hS := (hS.below (below1 U1 _)).below LB
  have s2 := hide (O2.toSrc B2.out)
  clear LB s1 O2
  go_wp2_with fail
  refine (nat_any _ _ _ S _ (HSS.out _ (hS.get 0 rfl)) (by decide)).mono ?_
  rw [HNS.out]
  rintro e U3 ⟨a3, c3, rfl, O3, LB⟩
  have hS := hS.below LB
  have s2 := hide (s2.out.below LB)
  have s3 := O3.src N2.out
  clear LB O3
  generalize NS.length = n3 at s3 ⊢
  have hm2 : (m2 : Int) ≤ 35 := by have := s2.out.hlen; have := hbd.out.1; omega
  go_wp2_with fail
  refine (put_any a2 m2 c2 C1 2 _ 1 1 _ [NS] _ (s2.out.alloc _) (parts_one s3) (by omega) (by decide)).mono ?_
  rw [P2.out]
  rintro e U4 ⟨a4, m4, c4, rfl, O4, LB⟩
  have hS := (hS.below (below1 U3 _)).below LB
  have s4 := O4.toSrc DB.out
  clear LB O4 s3 s2
  go_wp2_with fail
  refine (put_any none 0 0 [] 48 _ 1 1 _ [C2] _ (src_none _) (parts_one s4) (by decide) (by decide)).mono ?_
  rw [P3.out]
  rintro e U5 ⟨a5, m5, c5, rfl, O5, LB⟩
  have hS := hS.below (below1 U4 (.cells #[.slice a4 m4 c4] 22))
  have hb5 := hS.bl.size
  have O5' := hide (O5.rebase hb5)
  have U9 := hide (hS.below LB).bl
  clear LB O5 s4 hS hb5
  go_wp2
  go_ret
  exact ⟨a5, m5, c5, rfl, by rw [HE.out]; exact O5'.out, U9.out⟩

end Go.Proofs.YtnabmdpgibnkaabDoor
