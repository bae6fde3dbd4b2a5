/-
  The document's Put, Usage, Number, Reason, Basic, Subject, Issuer.
-/
import Derived.Test.YtaeddbkkkiefcaaExH
import Derived.Test.YtaeddbkkkiefcaaRFlags
import Derived.Test.YtaeddbkkkiefcaaRIntIt
namespace Go.Proofs.Ytaeddbkkkiefcaa
open Go.RowKit Go.IntWalk

set_option maxRecDepth 100000 in
set_option maxHeartbeats 1000000 in
theorem rput_any (tag : Int) (a : Option Addr) (m c : Nat) (xs : List Int) (w : World) (hs : Src w a m c xs) (ht0 : 0 ≤ tag) (ht1 : tag ≤ 255) (hm : (m : Int) ≤ 16777215) :
    Calls Try.prog 35 #[.int .i64 tag, .slice a m c] w fun e w' => ∃ a' m' c', e = .returned (.slice a' m' c') ∧ OwnB w' w.heap.size (.slice a' m' c') (elB tag xs) ∧ Below w.heap.size w w' := by
  have h := hide (bytes_any tag a m c xs w hs ht0 ht1 hm)
  have hl := hs.hlen
  clear hs
  go_enter Try.func35, Try.ntmps35
  go_wp2_with fail
  refine h.out.mono ?_
  rintro e w1 ⟨g, c1, rfl, o1, B1⟩
  have HO := hide (And.intro o1 B1)
  clear o1 B1 h
  go_wp2
  go_ret
  refine ⟨some ⟨g, 0, none⟩, _, c1, rfl, ?_, HO.out.2⟩
  unfold elB
  rw [hl]
  exact HO.out.1

theorem rbool_any (w : World) : Calls Try.prog 36 #[.bool true] w fun e w' => ∃ a m c, e = .returned (.slice a m c) ∧ OwnB w' w.heap.size (.slice a m c) [255] ∧ Below w.heap.size w w' := by
  have hB := xbelow w
  go_enter Try.func36, Try.ntmps36
  go_wp2
  go_ret
  exact ⟨_, _, _, rfl, OwnB.lit w.heap.size [255] _ 1 rfl rfl (Nat.le_refl _) (by decide), hB _⟩

theorem usB_el (s : Int) : usB s = elB 3 (flagsS s) := by
  have := flagsS_len s
  unfold usB
  rw [putS_el 3 _ rfl (by simp; omega)]
  simp
theorem nuB_el (n : Int) : nuB n = elB 2 (intS n) := intE 2 n rfl
theorem reB_el (n : Int) : reB n = elB 10 (intS n) := intE 10 n rfl


set_option maxRecDepth 100000 in
set_option maxHeartbeats 1000000 in
theorem rusage_any (s : Int) (h0 : 0 ≤ s) (h1 : s < 65536) (w : World) :
    Calls Try.prog 9 #[.int .u16 s] w fun e w' => ∃ a m c, e = .returned (.tuple #[.slice a m c, .int .i64 (wrE (usP s))]) ∧ OwnB w' w.heap.size (.slice a m c) (wrC (usP s) (usB s)) ∧ Below w.heap.size w w' := by
  by_cases h : usP s
  · have e1 : wrC (usP s) (usB s) = elB 3 (flagsS s) := by unfold wrC; rw [if_pos h, usB_el]
    have e2 : wrE (usP s) = 0 := by unfold wrE; rw [if_pos h]
    rw [e1, e2]
    obtain ⟨hp, hq⟩ := h
    have hE : (s == 0) = false := by simp; omega
    have hG : ¬ 511 < s := by omega
    have h := refFlags_any s.toNat (by omega) w
    rw [Int.toNat_of_nonneg h0] at h
    have hl := flagsS_len s
    have hb := hide (flagsS_byte s h0 h1)
    replace h := hide h
    clear e1 e2 hp hq h0 h1
    go_enter Try.func9, Try.ntmps9
    go_wp2_with fail
    refine h.out.mono ?_
    rintro e w1 ⟨g, c, rfl, o1, B1⟩
    -- 3 the tag, o1.toSrc hb.out the content's source
    have SR := o1.toSrc hb.out
    have d9 := hide (rput_any (3) _ _ _ _ w1 SR (by decide) (by decide) (by omega))
    have HB := hide B1
    clear SR B1 h o1
    go_wp2_with fail
    refine d9.out.mono ?_
    rintro e w2 ⟨a, m, c, rfl, o2, B2⟩
    have HO := hide (And.intro o2 B2)
    clear o2 B2 d9
    go_wp2
    go_ret2
    exact ⟨a, m, c, rfl, HO.out.1.rebaseX HB.out.size, HB.out.trans (HO.out.2.mono HB.out.size)⟩
  · have e1 : wrC (usP s) (usB s) = [] := by unfold wrC; rw [if_neg h]
    have e2 : wrE (usP s) = 150 := by unfold wrE; rw [if_neg h]
    rw [e1, e2]
    by_cases hz : s = 0
    · subst hz
      clear h e1 e2
      go_enter Try.func9, Try.ntmps9
      go_wp2
      go_ret2
      exact ⟨none, 0, 0, rfl, OwnB.nil _ _, Below.refl _ _⟩
    · have hE : (s == 0) = false := by simpa using hz
      have hG : 511 < s := by
        by_cases hG : s ≤ 511
        · exact absurd ⟨by omega, by omega⟩ h
        · omega
      clear h e1 e2 hz
      go_enter Try.func9, Try.ntmps9
      go_wp2
      go_ret2
      exact ⟨none, 0, 0, rfl, OwnB.nil _ _, Below.refl _ _⟩

set_option maxRecDepth 100000 in
set_option maxHeartbeats 1000000 in
theorem rnumber_any (n : Int) (h0 : -9223372036854775808 ≤ n) (h1 : n < 9223372036854775808) (w : World) :
    Calls Try.prog 11 #[.int .i64 n] w fun e w' => ∃ a m c, e = .returned (.tuple #[.slice a m c, .int .i64 (wrE (nuP n))]) ∧ OwnB w' w.heap.size (.slice a m c) (wrC (nuP n) (nuB n)) ∧ Below w.heap.size w w' := by
  have hi := intS_len n
  by_cases h : nuP n
  · have e1 : wrC (nuP n) (nuB n) = elB 2 (intS n) := by unfold wrC; rw [if_pos h, nuB_el]
    have e2 : wrE (nuP n) = 0 := by unfold wrE; rw [if_pos h]
    rw [e1, e2]
    have hL : ¬ n < 0 := by have : 0 ≤ n := h; omega
    clear h e1 e2
    have h := hide (refInt_any n h0 h1 w)
    have hb := hide (intS_byte n)
    clear h0 h1
    go_enter Try.func11, Try.ntmps11
    go_wp2_with fail
    refine h.out.mono ?_
    rintro e w1 ⟨a, m, c, rfl, o1, B1⟩
    have hm := (o1.toSrc hb.out).hlen
    -- 2 the tag, o1.toSrc hb.out the content's source
    have SR := o1.toSrc hb.out
    have d9 := hide (rput_any (2) _ _ _ _ w1 SR (by decide) (by decide) (by omega))
    have HB := hide B1
    clear SR B1 h o1
    go_wp2_with fail
    refine d9.out.mono ?_
    rintro e w2 ⟨a, m, c, rfl, o2, B2⟩
    have HO := hide (And.intro o2 B2)
    clear o2 B2 d9
    go_wp2
    go_ret2
    exact ⟨a, m, c, rfl, HO.out.1.rebaseX HB.out.size, HB.out.trans (HO.out.2.mono HB.out.size)⟩
  · have e1 : wrC (nuP n) (nuB n) = [] := by unfold wrC; rw [if_neg h]
    have e2 : wrE (nuP n) = 150 := by unfold wrE; rw [if_neg h]
    rw [e1, e2]
    have hL : n < 0 := by
      by_cases hL : n < 0
      · exact hL
      · exact absurd (show 0 ≤ n by omega) h
    clear h e1 e2
    go_enter Try.func11, Try.ntmps11
    go_wp2
    go_ret2
    exact ⟨none, 0, 0, rfl, OwnB.nil _ _, Below.refl _ _⟩

set_option maxRecDepth 100000 in
set_option maxHeartbeats 1000000 in
theorem rreason_any (n : Int) (h0 : -9223372036854775808 ≤ n) (h1 : n < 9223372036854775808) (w : World) :
    Calls Try.prog 13 #[.int .i64 n] w fun e w' => ∃ a m c, e = .returned (.tuple #[.slice a m c, .int .i64 (wrE (reP n))]) ∧ OwnB w' w.heap.size (.slice a m c) (wrC (reP n) (reB n)) ∧ Below w.heap.size w w' := by
  have hi := intS_len n
  by_cases h : reP n
  · have e1 : wrC (reP n) (reB n) = elB 10 (intS n) := by unfold wrC; rw [if_pos h, reB_el]
    have e2 : wrE (reP n) = 0 := by unfold wrE; rw [if_pos h]
    rw [e1, e2]
    obtain ⟨hp, hq, hr⟩ := h
    have hL : ¬ n < 0 := by omega
    have hG : ¬ 10 < n := by omega
    have h7 : (n == 7) = false := by simpa using hr
    clear hp hq hr e1 e2
    have h := hide (refInt_any n h0 h1 w)
    have hb := hide (intS_byte n)
    clear h0 h1
    go_enter Try.func13, Try.ntmps13
    go_wp2_with fail
    refine h.out.mono ?_
    rintro e w1 ⟨a, m, c, rfl, o1, B1⟩
    have hm := (o1.toSrc hb.out).hlen
    -- 10 the tag, o1.toSrc hb.out the content's source
    have SR := o1.toSrc hb.out
    have d9 := hide (rput_any (10) _ _ _ _ w1 SR (by decide) (by decide) (by omega))
    have HB := hide B1
    clear SR B1 h o1
    go_wp2_with fail
    refine d9.out.mono ?_
    rintro e w2 ⟨a, m, c, rfl, o2, B2⟩
    have HO := hide (And.intro o2 B2)
    clear o2 B2 d9
    go_wp2
    go_ret2
    exact ⟨a, m, c, rfl, HO.out.1.rebaseX HB.out.size, HB.out.trans (HO.out.2.mono HB.out.size)⟩
  · have e1 : wrC (reP n) (reB n) = [] := by unfold wrC; rw [if_neg h]
    have e2 : wrE (reP n) = 150 := by unfold wrE; rw [if_neg h]
    rw [e1, e2]
    by_cases hL : n < 0
    · clear h e1 e2
      go_enter Try.func13, Try.ntmps13
      go_wp2
      go_ret2
      exact ⟨none, 0, 0, rfl, OwnB.nil _ _, Below.refl _ _⟩
    · by_cases hG : 10 < n
      · clear h e1 e2
        go_enter Try.func13, Try.ntmps13
        go_wp2
        go_ret2
        exact ⟨none, 0, 0, rfl, OwnB.nil _ _, Below.refl _ _⟩
      · have h7 : (n == 7) = true := by
          by_cases e : n = 7
          · simp [e]
          · exact absurd ⟨by omega, by omega, e⟩ h
        clear h e1 e2
        go_enter Try.func13, Try.ntmps13
        go_wp2
        go_ret2
        exact ⟨none, 0, 0, rfl, OwnB.nil _ _, Below.refl _ _⟩

set_option maxRecDepth 100000 in
set_option maxHeartbeats 1000000 in
theorem rsubject_any (X : List Int) (hX : X.length = 20) (hb : ∀ x ∈ X, 0 ≤ x ∧ x < 256) (w : World) :
    Calls Try.prog 15 #[kv X] w fun e w' => ∃ a m c, e = .returned (.slice a m c) ∧ OwnB w' w.heap.size (.slice a m c) (subB X) ∧ Below w.heap.size w w' := by
  -- [20]uint8 the array's type, slice_all20 the slice's fact
  have BX := xbelow w (.cells (X.map (Value.int .u8)).toArray 25)
  have SX := src_key X w 25 hX hb
  have hz : (w.alloc (.cells (X.map (Value.int .u8)).toArray 25)).heap.size = w.heap.size + 1 := by simp
  have hsl := slice_all20
  unfold kv
  generalize (X.map (Value.int .u8)).toArray = A at *
  have d9 := hide (rput_any 4 _ _ _ _ _ SX (by decide) (by decide) (by decide))
  have HB := hide BX
  clear SX BX hz hX hb
  unfold subB
  go_enter Try.func15, Try.ntmps15
  go_wp2_with fail
  refine d9.out.mono ?_
  rintro e w2 ⟨a, m, c, rfl, o2, B2⟩
  have HO := hide (And.intro o2 B2)
  clear o2 B2 d9
  go_wp2
  go_ret
  exact ⟨a, m, c, rfl, HO.out.1.rebaseX HB.out.size, HB.out.trans (HO.out.2.mono HB.out.size)⟩

set_option maxRecDepth 100000 in
set_option maxHeartbeats 1000000 in
theorem rissuer_any (X : List Int) (hX : X.length = 20) (hb : ∀ x ∈ X, 0 ≤ x ∧ x < 256) (w : World) :
    Calls Try.prog 17 #[kv X] w fun e w' => ∃ a m c, e = .returned (.slice a m c) ∧ OwnB w' w.heap.size (.slice a m c) (issB X) ∧ Below w.heap.size w w' := by
  have hpb := hide (elB_byte 128 X (by decide) (by decide) (by omega) hb)
  have hpl := elB_len 128 X
  -- [20]uint8 the array's type, slice_all20 the slice's fact
  have BX := xbelow w (.cells (X.map (Value.int .u8)).toArray 25)
  have SX := src_key X w 25 hX hb
  have hz : (w.alloc (.cells (X.map (Value.int .u8)).toArray 25)).heap.size = w.heap.size + 1 := by simp
  have hsl := slice_all20
  unfold kv
  generalize (X.map (Value.int .u8)).toArray = A at *
  have d9 := hide (rput_any 128 _ _ _ _ _ SX (by decide) (by decide) (by decide))
  have HB := hide BX
  clear SX BX hz hb
  unfold issB
  generalize elB 128 X = P at *
  go_enter Try.func17, Try.ntmps17
  go_wp2_with fail
  refine d9.out.mono ?_
  rintro e w1 ⟨a, m, c, rfl, o2, B2⟩
  have SR := o2.toSrc hpb.out
  have hm := SR.hlen
  have d8 := hide (rput_any 48 _ _ _ _ w1 SR (by decide) (by decide) (by omega))
  have HC := hide (HB.out.trans (B2.mono HB.out.size))
  clear SR B2 o2 d9 hm hpl hX
  go_wp2_with fail
  refine d8.out.mono ?_
  rintro e w2 ⟨a2, m2, c2, rfl, o2, B2⟩
  have HO := hide (And.intro o2 B2)
  clear o2 B2 d8
  go_wp2
  go_ret
  exact ⟨a2, m2, c2, rfl, HO.out.1.rebaseX HC.out.size, HC.out.trans (HO.out.2.mono HC.out.size)⟩

end Go.Proofs.Ytaeddbkkkiefcaa
