/-
  num.ToNat, num.ToBool, num.ToBits: what they tell of any bytes, as plain functions.
-/
import Derived.Test.YtmkfdfjpfinbpaaToInt
import Derived.Test.YtmkfdfjpfinbpaaClone
import Derived.Test.YtmkfdfjpfinbpaaAre
import Derived.Deep.RegionHeld3
namespace Go.Proofs.Ytmkfdfjpfinbpaa
open Go.RowKit Go.IntWalk

def toNatE (xs : List Int) : Int := if isIntS xs then (if 128 ≤ xs.getD 0 0 then 22 else 0) else 20
def toNatV (xs : List Int) : List Int := if isIntS xs then (if 128 ≤ xs.getD 0 0 then [] else if xs.getD 0 0 = 0 then xs.drop 1 else xs) else []

def toBoolE (xs : List Int) : Int := if xs = [0] ∨ xs = [255] then 0 else 20
def toBoolV (xs : List Int) : Bool := decide (xs = [255])

def isBS (xs : List Int) : Bool := match xs with | [] => false | u :: r => bitsB r u
def toBitsE (xs : List Int) : Int := if isBS xs then 0 else 20
def toBitsU (xs : List Int) : Int := if isBS xs then xs.getD 0 0 else 0
def toBitsV (xs : List Int) : List Int := if isBS xs then xs.drop 1 else []

theorem Src.one {w : World} {b off n cap : Nat} {xs : List Int} (hs : Src w (some ⟨b, off, none⟩) n cap xs) (h : 0 < n) : w.cell? ⟨b, off, none⟩ = some (.int .u8 (xs.getD 0 0)) := by
  obtain ⟨b', off', he, hc⟩ := hs.at 0 h
  simp at he
  obtain ⟨rfl, rfl⟩ := he
  exact hc

theorem Src.tail {w : World} {ao : Option Addr} {n cap : Nat} {xs : List Int} (hs : Src w ao (n + 1) cap xs) : Src w (cutA ao cap 1) n (cap - 1) (xs.drop 1) := by
  have := hs.cut 1 (n + 1) (by omega) (Nat.le_refl _)
  rw [List.take_of_length_le (by rw [hs.hlen]; exact Nat.le_refl _)] at this
  exact this

set_option maxRecDepth 100000 in
set_option maxHeartbeats 1000000 in
theorem toNat_any (ao : Option Addr) (n cap : Nat) (xs : List Int) (w : World) (hs : Src w ao n cap xs) (hN : n ≤ 140737488355328) :
    Calls Try.prog 17 #[.slice ao n cap] w fun e w' => ∃ ao' c', e = .returned (.tuple #[.slice ao' (toNatV xs).length c', .int .i64 (toNatE xs)]) ∧ OwnB w' w.heap.size (.slice ao' (toNatV xs).length c') (toNatV xs) ∧ Below w.heap.size w w' := by
  have Hc := hide (isInteger_any ao n cap xs w hs)
  by_cases h : isIntS xs = true
  · rw [h] at Hc
    have hn : 0 < n := by
      rcases Nat.eq_zero_or_pos n with h' | h'
      · subst h'
        obtain rfl : xs = [] := List.eq_nil_of_length_eq_zero hs.hlen
        simp [isIntS] at h
      · exact h'
    obtain ⟨m, rfl⟩ : ∃ m, n = m + 1 := ⟨n - 1, by omega⟩
    obtain ⟨b, off, rfl, _⟩ := hs.at 0 hn
    have c0 := hs.one hn
    have HL := hide hs.hlen
    obtain ⟨x, hx⟩ : ∃ x, xs.getD 0 0 = x := ⟨_, rfl⟩
    rw [hx] at c0
    by_cases h1 : 128 ≤ x
    · have e1 : toNatE xs = 22 := by unfold toNatE; rw [if_pos h, hx, if_pos h1]
      have e2 : toNatV xs = [] := by unfold toNatV; rw [if_pos h, hx, if_pos h1]
      rw [e1, e2]
      clear e1 e2 hx
      go_enter Try.func17, Try.ntmps17
      go_wp2_with fail
      refine Hc.out.mono ?_
      rintro e w0 ⟨rfl, hw⟩
      have hd : Drawn w w0 := by obtain ⟨q, rfl⟩ := hw; exact (Drawn.refl _).more q
      clear hw
      have c1 := (hd.cell ⟨b, off, none⟩).trans c0
      go_wp2_with (go_at_call 27; refine (below0_any _ _).mono ?_; rintro e w1 ⟨rfl, hw1⟩; have hw2 := hw1.symm; subst hw2)
      refine bodyPost_ret (v := .tuple #[.slice none 0 0, .int .i64 22]) (by simp [results, Try.results17, go_sem]) rfl ⟨none, 0, rfl, OwnB.nil _ _, hd.below (Below.refl _ _)⟩
    · have e1 : toNatE xs = 0 := by unfold toNatE; rw [if_pos h, hx, if_neg h1]
      by_cases h2 : x = 0
      · have e2 : toNatV xs = xs.drop 1 := by unfold toNatV; rw [if_pos h, hx, if_neg h1, if_pos h2]
        have e3 : (xs.drop 1).length = m := by rw [List.length_drop, HL.out]; rfl
        rw [e1, e2, e3]
        clear e1 e2 hx e3
        have ht := hide hs.tail
        have sl := fun W => slice_lo W (some ⟨b, off, none⟩) (m + 1) cap 1 1 rfl (by omega)
        simp only [Nat.add_sub_cancel] at sl
        generalize cutA (some ⟨b, off, none⟩) cap 1 = A at ht sl
        subst h2
        go_enter Try.func17, Try.ntmps17
        go_wp2_with fail
        refine Hc.out.mono ?_
        rintro e w0 ⟨rfl, hw⟩
        have hd : Drawn w w0 := by obtain ⟨q, rfl⟩ := hw; exact (Drawn.refl _).more q
        clear hw
        have c1 := (hd.cell ⟨b, off, none⟩).trans c0
        go_wp2_with (first | (go_at_call 27; refine (below0_any _ _).mono ?_; rintro e w1 ⟨rfl, hw1⟩; have hw2 := hw1.symm; subst hw2) | (go_at_call 28; refine (clone_any _ _ _ (xs.drop 1) _ (ht.out.heap hd.heap) (by omega)).mono ?_; rintro e w1 ⟨ao', c', rfl, hv, hb1⟩))
        refine bodyPost_ret (v := .tuple #[.slice ao' m c', .int .i64 0]) (by simp [results, Try.results17, go_sem]) rfl ⟨ao', c', rfl, ?_, ?_⟩
        · exact hv.rebase (by rw [hd.heap]; exact Nat.le_refl _)
        · exact (hd.below (Below.refl _ _)).trans (hb1.mono (by rw [hd.heap]; exact Nat.le_refl _))
      · have e2 : toNatV xs = xs := by unfold toNatV; rw [if_pos h, hx, if_neg h1, if_neg h2]
        rw [e1, e2, HL.out]
        clear e1 e2 hx
        go_enter Try.func17, Try.ntmps17
        go_wp2_with fail
        refine Hc.out.mono ?_
        rintro e w0 ⟨rfl, hw⟩
        have hd : Drawn w w0 := by obtain ⟨q, rfl⟩ := hw; exact (Drawn.refl _).more q
        clear hw
        have c1 := (hd.cell ⟨b, off, none⟩).trans c0
        go_wp2_with (first | (go_at_call 27; refine (below0_any _ _).mono ?_; rintro e w1 ⟨rfl, hw1⟩; have hw2 := hw1.symm; subst hw2) | (go_at_call 28; refine (clone_any _ _ _ xs _ (hs.heap hd.heap) (by omega)).mono ?_; rintro e w1 ⟨ao', c', rfl, hv, hb1⟩))
        refine bodyPost_ret (v := .tuple #[.slice ao' (m + 1) c', .int .i64 0]) (by simp [results, Try.results17, go_sem]) rfl ⟨ao', c', rfl, ?_, ?_⟩
        · exact hv.rebase (by rw [hd.heap]; exact Nat.le_refl _)
        · exact (hd.below (Below.refl _ _)).trans (hb1.mono (by rw [hd.heap]; exact Nat.le_refl _))
  · simp only [Bool.not_eq_true] at h
    rw [h] at Hc
    have e1 : toNatE xs = 20 := by unfold toNatE; rw [if_neg (by simp [h])]
    have e2 : toNatV xs = [] := by unfold toNatV; rw [if_neg (by simp [h])]
    rw [e1, e2]
    clear e1 e2
    go_enter Try.func17, Try.ntmps17
    go_wp2_with fail
    refine Hc.out.mono ?_
    rintro e w0 ⟨rfl, hw⟩
    have hd : Drawn w w0 := by obtain ⟨q, rfl⟩ := hw; exact (Drawn.refl _).more q
    clear hw
    go_wp2
    refine bodyPost_ret (v := .tuple #[.slice none 0 0, .int .i64 20]) (by simp [results, Try.results17, go_sem]) rfl ⟨none, 0, rfl, OwnB.nil _ _, hd.below (Below.refl _ _)⟩

set_option maxRecDepth 100000 in
set_option maxHeartbeats 1000000 in
theorem toBool_any (ao : Option Addr) (n cap : Nat) (xs : List Int) (w : World) (hs : Src w ao n cap xs) :
    Calls Try.prog 18 #[.slice ao n cap] w fun e w' => e = .returned (.tuple #[.bool (toBoolV xs), .int .i64 (toBoolE xs)]) ∧ w' = w := by
  have HL := hide hs.hlen
  by_cases h1 : n = 1
  · subst h1
    obtain ⟨x, rfl⟩ : ∃ x, xs = [x] := List.length_eq_one_iff.1 hs.hlen
    obtain ⟨b, off, rfl, c0⟩ := hs.at 0 (by omega)
    · simp only [Nat.add_zero, List.getD, List.getElem?_cons_zero, Option.getD_some] at c0
      clear HL
      by_cases h2 : x = 0
      · subst h2
        have e1 : toBoolE [0] = 0 := by simp [toBoolE]
        have e2 : toBoolV [0] = false := by simp [toBoolV]
        rw [e1, e2]
        clear e1 e2
        go_enter Try.func18, Try.ntmps18
        go_wp2
        exact bodyPost_ret (v := .tuple #[.bool false, .int .i64 0]) (by simp [results, Try.results18, go_sem]) rfl ⟨rfl, rfl⟩
      · by_cases h3 : x = 255
        · subst h3
          have e1 : toBoolE [255] = 0 := by simp [toBoolE]
          have e2 : toBoolV [255] = true := by simp [toBoolV]
          rw [e1, e2]
          clear e1 e2
          go_enter Try.func18, Try.ntmps18
          go_wp2
          exact bodyPost_ret (v := .tuple #[.bool true, .int .i64 0]) (by simp [results, Try.results18, go_sem]) rfl ⟨rfl, rfl⟩
        · have e1 : toBoolE [x] = 20 := by simp [toBoolE, h2, h3]
          have e2 : toBoolV [x] = false := by simp [toBoolV, h3]
          rw [e1, e2]
          clear e1 e2
          have g1 : (x != 0) = true := by simp [h2]
          have g2 : (x != 255) = true := by simp [h3]
          go_enter Try.func18, Try.ntmps18
          go_wp2
          exact bodyPost_ret (v := .tuple #[.bool false, .int .i64 20]) (by simp [results, Try.results18, go_sem]) rfl ⟨rfl, rfl⟩
  · have hx : xs ≠ [0] ∧ xs ≠ [255] := by
      constructor <;> (intro h; rw [h] at HL; exact h1 HL.out.symm)
    have e1 : toBoolE xs = 20 := by simp [toBoolE, hx.1, hx.2]
    have e2 : toBoolV xs = false := by simp [toBoolV, hx.2]
    rw [e1, e2]
    clear e1 e2
    have g1 : ((n : Int) != 1) = true := by simp; omega
    go_enter Try.func18, Try.ntmps18
    go_wp2
    exact bodyPost_ret (v := .tuple #[.bool false, .int .i64 20]) (by simp [results, Try.results18, go_sem]) rfl ⟨rfl, rfl⟩

set_option maxRecDepth 100000 in
set_option maxHeartbeats 1000000 in
theorem isBS_any (ao : Option Addr) (n cap : Nat) (xs : List Int) (w : World) (hs : Src w ao n cap xs) :
    Calls Try.prog 29 #[.slice ao n cap] w fun e w' => e = .returned (.bool (isBS xs)) ∧ ∃ q, w' = w.drewN q := by
  have hl := hs.hlen
  match xs, hs, hl with
  | [], hs, hl =>
    obtain rfl : n = 0 := by simpa using hl.symm
    go_enter Try.func29, Try.ntmps29
    go_wp2_with fail
    go_quiet (fail)
    go_wp2
    go_ret
    exact ⟨rfl, _, rfl⟩
  | x :: r, hs, hl =>
    obtain ⟨m, rfl⟩ : ∃ m, n = m + 1 := ⟨n - 1, by simp at hl; omega⟩
    obtain ⟨b, off, rfl, c0⟩ := hs.at 0 (by omega)
    simp only [Nat.add_zero, List.getD, List.getElem?_cons_zero, Option.getD_some] at c0
    have hx := hs.hbyt x (List.mem_cons_self ..)
    obtain ⟨x0, x1⟩ := hx
    have ht := hide hs.tail
    have sl := fun W => slice_lo W (some ⟨b, off, none⟩) (m + 1) cap 1 1 rfl (by omega)
    simp only [Nat.add_sub_cancel] at sl
    generalize cutA (some ⟨b, off, none⟩) cap 1 = A at ht sl
    have g3 : decide (0 < (m : Int) + 1) = true := decide_eq_true (by omega)
    clear hl
    go_enter Try.func29, Try.ntmps29
    go_wp2_with fail
    go_quiet ((go_at_call 24; exact Calls.quiet_of (areBits_any A m (cap - 1) r x _ (by exact ht.out.heap rfl))))
    go_wp2
    go_ret
    exact ⟨rfl, _, rfl⟩

set_option maxRecDepth 100000 in
set_option maxHeartbeats 1000000 in
theorem toBits_any (ao : Option Addr) (n cap : Nat) (xs : List Int) (w : World) (hs : Src w ao n cap xs) (hN : n ≤ 140737488355328) :
    Calls Try.prog 21 #[.slice ao n cap] w fun e w' => ∃ ao' c', e = .returned (.tuple #[.slice ao' (toBitsV xs).length c', .int .i64 (toBitsU xs), .int .i64 (toBitsE xs)]) ∧ OwnB w' w.heap.size (.slice ao' (toBitsV xs).length c') (toBitsV xs) ∧ Below w.heap.size w w' := by
  have Hc := hide (isBS_any ao n cap xs w hs)
  by_cases h : isBS xs = true
  · rw [h] at Hc
    obtain ⟨x, r, rfl⟩ : ∃ x r, xs = x :: r := by
      cases xs with
      | nil => simp [isBS] at h
      | cons x r => exact ⟨x, r, rfl⟩
    have hl : r.length + 1 = n := by have := hs.hlen; simpa using this
    obtain ⟨m, rfl⟩ : ∃ m, n = m + 1 := ⟨n - 1, by omega⟩
    have HL : Hid (r.length = m) := by unfold Hid; omega
    obtain ⟨b, off, rfl, c0⟩ := hs.at 0 (by omega)
    simp only [Nat.add_zero, List.getD, List.getElem?_cons_zero, Option.getD_some] at c0
    obtain ⟨x0, x1⟩ := hs.hbyt x (List.mem_cons_self ..)
    have e1 : toBitsE (x :: r) = 0 := by unfold toBitsE; rw [if_pos h]
    have e2 : toBitsV (x :: r) = r := by unfold toBitsV; rw [if_pos h]; rfl
    have e3 : toBitsU (x :: r) = x := by unfold toBitsU; rw [if_pos h]; rfl
    rw [e1, e2, e3, HL.out]
    clear e1 e2 e3 hl
    have ht : Hid (Src w (cutA (some ⟨b, off, none⟩) cap 1) m (cap - 1) r) := hs.tail
    have sl := fun W => slice_lo W (some ⟨b, off, none⟩) (m + 1) cap 1 1 rfl (by omega)
    simp only [Nat.add_sub_cancel] at sl
    generalize cutA (some ⟨b, off, none⟩) cap 1 = A at ht sl
    have hbl : b < w.heap.size := lt_of_cell c0
    have hwx : IntKind.i64.wrap x = x := i64_in _ (by omega)
    go_enter Try.func21, Try.ntmps21
    go_wp2_with fail
    refine Hc.out.mono ?_
    rintro e w0 ⟨rfl, hw⟩
    have hd : Drawn w w0 := by obtain ⟨q, rfl⟩ := hw; exact (Drawn.refl _).more q
    clear hw
    have c1 := (hd.cell ⟨b, off, none⟩).trans c0
    have hb0 : b < w0.heap.size := by rw [hd.heap]; exact hbl
    have hs0 := hide (ht.out.heap hd.heap)
    clear c0
    go_wp2_with fail
    go_region_held3 (fun W => W.cell? ⟨b, off, none⟩ = some (.int .u8 x)) (go_keep) (first | (go_at_call 28; refine (clone_any _ _ _ r _ (by exact hs0.out.drewN 1) (by omega)).mono ?_; rintro e w1 ⟨ao', c', rfl, hv, hb1⟩; obtain ⟨hc, hf⟩ := bcell hb1; have k0 : w1.cell? ⟨b, off, none⟩ = some (.int .u8 x) := (by rw [hc _ _ (by simpa using hb0)]; exact c1)))
    go_wp2
    refine bodyPost_ret (v := .tuple #[.slice ao' m c', .int .i64 x, .int .i64 0]) (by simp [results, Try.results21, go_sem]) rfl ⟨ao', c', rfl, ?_, ?_⟩
    · exact hv.rebase (by show w.heap.size ≤ w0.heap.size; rw [hd.heap]; exact Nat.le_refl _)
    · exact (((Drawn.more hd 1)).below (Below.refl _ _)).trans (hb1.mono (by show w.heap.size ≤ w0.heap.size; rw [hd.heap]; exact Nat.le_refl _))
  · simp only [Bool.not_eq_true] at h
    rw [h] at Hc
    have e1 : toBitsE xs = 20 := by unfold toBitsE; rw [if_neg (by simp [h])]
    have e2 : toBitsV xs = [] := by unfold toBitsV; rw [if_neg (by simp [h])]
    have e3 : toBitsU xs = 0 := by unfold toBitsU; rw [if_neg (by simp [h])]
    rw [e1, e2, e3]
    clear e1 e2 e3
    go_enter Try.func21, Try.ntmps21
    go_wp2_with fail
    refine Hc.out.mono ?_
    rintro e w0 ⟨rfl, hw⟩
    have hd : Drawn w w0 := by obtain ⟨q, rfl⟩ := hw; exact (Drawn.refl _).more q
    clear hw
    go_wp2
    refine bodyPost_ret (v := .tuple #[.slice none 0 0, .int .i64 0, .int .i64 20]) (by simp [results, Try.results21, go_sem]) rfl ⟨none, 0, rfl, OwnB.nil _ _, hd.below (Below.refl _ _)⟩

end Go.Proofs.Ytmkfdfjpfinbpaa
