/-
  ext: bytes of elements; what gives up.
-/
import Derived.Test.YtaeddbkkkiefcaaExB
import Derived.Test.YtaeddbkkkiefcaaPut
import Derived.Test.YtaeddbkkkiefcaaInt
import Derived.Test.YtaeddbkkkiefcaaFlags
import Derived.Test.YtaeddbkkkiefcaaFlagM
namespace Go.Proofs.Ytaeddbkkkiefcaa
open Go.RowKit Go.IntWalk

theorem xbelow (w : World) (o : Obj) : Below w.heap.size w (w.alloc o) := (Below.refl _ w).alloc (Nat.le_refl _) _
theorem OwnB.rebaseX {w : World} {base base' : Nat} {v : Value} {xs : List Int} (h : OwnB w base v xs) (hb : base' ≤ base) : OwnB w base' v xs := by
  obtain ⟨hl, h⟩ := h
  refine ⟨hl, ?_⟩
  rcases h with h | ⟨g, cap, cur, rfl, hbg, r⟩
  · exact .inl h
  · exact .inr ⟨g, cap, cur, rfl, by omega, r⟩
theorem src_nil (w : World) : Src w none 0 0 [] := ⟨rfl, Nat.le_refl _, by decide, fun _ => ⟨rfl, rfl⟩, fun h => absurd rfl h, by simp⟩
theorem parts_one {w : World} {b : Nat} {a : Option Addr} {m c : Nat} {xs : List Int} (h : w.cell? ⟨b, 0, none⟩ = some (.slice a m c)) (hs : Src w a m c xs) : Parts w (some ⟨b, 0, none⟩) 1 1 [.slice a m c] [xs] := by
  refine ⟨rfl, rfl, Nat.le_refl _, by decide, fun _ => ⟨b, 0, rfl, fun i hi => ?_⟩, fun i hi => ?_⟩
  · obtain rfl : i = 0 := by omega
    exact h
  · obtain rfl : i = 0 := by omega
    exact ⟨a, m, c, rfl, hs⟩
theorem parts_two {w : World} {b : Nat} {a a2 : Option Addr} {m c m2 c2 : Nat} {xs ys : List Int} (h : w.cell? ⟨b, 0, none⟩ = some (.slice a m c)) (h2 : w.cell? ⟨b, 1, none⟩ = some (.slice a2 m2 c2)) (hs : Src w a m c xs) (hs2 : Src w a2 m2 c2 ys) : Parts w (some ⟨b, 0, none⟩) 2 2 [.slice a m c, .slice a2 m2 c2] [xs, ys] := by
  refine ⟨rfl, rfl, Nat.le_refl _, by decide, fun _ => ⟨b, 0, rfl, fun i hi => ?_⟩, fun i hi => ?_⟩
  · rcases (by omega : i = 0 ∨ i = 1) with rfl | rfl
    · exact h
    · exact h2
  · rcases (by omega : i = 0 ∨ i = 1) with rfl | rfl
    · exact ⟨a, m, c, rfl, hs⟩
    · exact ⟨a2, m2, c2, rfl, hs2⟩

set_option maxRecDepth 100000 in
set_option maxHeartbeats 1000000 in
theorem putX_any (tag : Int) (ao : Option Addr) (n cap : Nat) (vs : List Value) (ls : List (List Int)) (w : World) (hp : Parts w ao n cap vs ls) (hn : (n : Int) ≤ 140737488355328) :
    Calls Try.prog 46 #[.int .i64 tag, .slice ao n cap] w fun e w' => ∃ a m c, e = .returned (.slice a m c) ∧ OwnB w' w.heap.size (.slice a m c) (putS [] tag ls).1 ∧ Below w.heap.size w w' := by
  have h := hide (put_any none 0 0 [] tag ao n cap vs ls w (src_nil w) hp (by omega) hn)
  clear hp
  generalize (putS [] tag ls).1 = R at *
  generalize (putS [] tag ls).2 = E at *
  go_enter Try.func46, Try.ntmps46
  go_wp2_with fail
  refine h.out.mono ?_
  rintro e w1 ⟨a, m, c, rfl, o1, B1⟩
  have HO := hide (And.intro o1 B1)
  clear h o1 B1
  go_wp2
  go_ret
  exact ⟨a, m, c, rfl, HO.out.1, HO.out.2⟩

set_option maxRecDepth 100000 in
set_option maxHeartbeats 1000000 in
theorem putInt_any (tag n : Int) (w : World) :
    Calls Try.prog 65 #[.int .i64 tag, .int .i64 n] w fun e w' => ∃ a m c, e = .returned (.slice a m c) ∧ OwnB w' w.heap.size (.slice a m c) (putS [] tag [intS n]).1 ∧ Below w.heap.size w w' := by
  have h := hide (int_any n w)
  have hb := hide (intS_byte n)
  go_enter Try.func65, Try.ntmps65
  go_wp2_with fail
  refine h.out.mono ?_
  rintro e w1 ⟨ao, c1, rfl, o1, B1⟩
  -- behind the content's call: tag the tag, o1.src hb.out the content's fact, w1 the memory, .slice ao (intS n).length c1 the content
  have SR := o1.src hb.out
  have BY := xbelow w1 (.cells #[.slice ao (intS n).length c1] 27)
  have d9 := hide (putX_any (tag) _ _ _ _ _ (w1.alloc (.cells #[.slice ao (intS n).length c1] 27)) (parts_one (b := w1.heap.size) (by simp) (SR.below BY)) (by decide))
  have HB := hide (B1.trans (BY.mono B1.size))
  clear BY SR B1 h o1
  go_wp2_with fail
  refine d9.out.mono ?_
  rintro e w2 ⟨a, m, c, rfl, o2, B2⟩
  have HO := hide (And.intro o2 B2)
  clear o2 B2 d9
  go_wp2
  go_ret
  exact ⟨a, m, c, rfl, HO.out.1.rebaseX HB.out.size, HB.out.trans (HO.out.2.mono HB.out.size)⟩

theorem bool_any (v : Bool) (w : World) : Calls Try.prog 79 #[.bool v] w fun e w' => ∃ a m c, e = .returned (.slice a m c) ∧ OwnB w' w.heap.size (.slice a m c) [if v then 255 else 0] ∧ Below w.heap.size w w' := by
  have hB := xbelow w
  cases v with
  | true =>
    go_enter Try.func79, Try.ntmps79
    go_wp2
    go_ret
    exact ⟨_, _, _, rfl, OwnB.lit w.heap.size [255] _ 1 rfl rfl (Nat.le_refl _) (by decide), hB _⟩
  | false =>
    go_enter Try.func79, Try.ntmps79
    go_wp2
    go_ret
    exact ⟨_, _, _, rfl, OwnB.lit w.heap.size [0] _ 1 rfl rfl (Nat.le_refl _) (by decide), hB _⟩

/-- A truth value's element; false has none. -/
def trueB (v : Bool) : List Int := if v then (putS [] 1 [[255]]).1 else []
set_option maxRecDepth 100000 in
set_option maxHeartbeats 1000000 in
theorem putTrue_any (v : Bool) (w : World) :
    Calls Try.prog 66 #[.bool v] w fun e w' => ∃ a m c, e = .returned (.slice a m c) ∧ OwnB w' w.heap.size (.slice a m c) (trueB v) ∧ Below w.heap.size w w' := by
  cases v with
  | false =>
    go_enter Try.func66, Try.ntmps66
    go_wp2
    go_ret
    exact ⟨none, 0, 0, rfl, OwnB.nil _ _, Below.refl _ _⟩
  | true =>
    have h := hide (bool_any true w)
    go_enter Try.func66, Try.ntmps66
    go_wp2_with fail
    refine h.out.mono ?_
    rintro e w1 ⟨ao, m1, c1, rfl, o1, B1⟩
    -- behind the content's call: 1 the tag, o1.toSrc (by simp) the content's fact, w1 the memory, .slice ao m1 c1 the content
    have SR := o1.toSrc (by simp)
    have BY := xbelow w1 (.cells #[.slice ao m1 c1] 27)
    have d9 := hide (putX_any (1) _ _ _ _ _ (w1.alloc (.cells #[.slice ao m1 c1] 27)) (parts_one (b := w1.heap.size) (by simp) (SR.below BY)) (by decide))
    have HB := hide (B1.trans (BY.mono B1.size))
    clear BY SR B1 h o1
    go_wp2_with fail
    refine d9.out.mono ?_
    rintro e w2 ⟨a, m, c, rfl, o2, B2⟩
    have HO := hide (And.intro o2 B2)
    clear o2 B2 d9
    go_wp2
    go_ret
    exact ⟨a, m, c, rfl, HO.out.1.rebaseX HB.out.size, HB.out.trans (HO.out.2.mono HB.out.size)⟩

/-- Bytes, if all may be; else none, and the error. -/
def wrC (p : Prop) [Decidable p] (l : List Int) : List Int := if p then l else []
def wrE (p : Prop) [Decidable p] : Int := if p then 0 else 150
/-- May a usage be? its bytes. -/
abbrev usP (s : Int) : Prop := 0 < s ∧ s < 512
def usB (s : Int) : List Int := (putS [] 3 [flagsS s]).1
abbrev nuP (n : Int) : Prop := 0 ≤ n
def nuB (n : Int) : List Int := (putS [] 2 [intS n]).1
abbrev reP (n : Int) : Prop := 0 ≤ n ∧ n ≤ 10 ∧ n ≠ 7
def reB (n : Int) : List Int := (putS [] 10 [intS n]).1
set_option maxRecDepth 100000 in
set_option maxHeartbeats 1000000 in
theorem writeUsage_yes (s : Int) (hs : usP s) (w : World) :
    Calls Try.prog 40 #[.int .u16 s] w fun e w' => ∃ a m c, e = .returned (.slice a m c) ∧ OwnB w' w.heap.size (.slice a m c) (usB s) ∧ Below w.heap.size w w' := by
  obtain ⟨h0, h1⟩ := hs
  have h := hide (flags_any s (by omega) (by omega) w)
  have hb := hide (flagsS_byte s (by omega) (by omega))
  have d0 := hide (must_yes w)
  go_enter Try.func40, Try.ntmps40
  go_wp2_with fail
  refine d0.out.mono ?_
  rintro e w0 ⟨rfl, rfl⟩
  go_wp2_with fail
  refine h.out.mono ?_
  rintro e w1 ⟨g1, c1, rfl, o1, B1⟩
  -- behind the content's call: 3 the tag, o1.toSrc hb.out the content's fact, w1 the memory, .slice (some ⟨g1, 0, none⟩) (flagsS s).length c1 the content
  have SR := o1.toSrc hb.out
  have BY := xbelow w1 (.cells #[.slice (some ⟨g1, 0, none⟩) (flagsS s).length c1] 27)
  have d9 := hide (putX_any (3) _ _ _ _ _ (w1.alloc (.cells #[.slice (some ⟨g1, 0, none⟩) (flagsS s).length c1] 27)) (parts_one (b := w1.heap.size) (by simp) (SR.below BY)) (by decide))
  have HB := hide (B1.trans (BY.mono B1.size))
  clear BY SR B1 h o1
  go_wp2_with fail
  refine d9.out.mono ?_
  rintro e w2 ⟨a, m, c, rfl, o2, B2⟩
  have HO := hide (And.intro o2 B2)
  clear o2 B2 d9
  go_wp2
  go_ret
  exact ⟨a, m, c, rfl, HO.out.1.rebaseX HB.out.size, HB.out.trans (HO.out.2.mono HB.out.size)⟩
set_option maxRecDepth 100000 in
theorem writeUsage_no (s : Int) (h : ¬ usP s) (w : World) : Calls Try.prog 40 #[.int .u16 s] w fun e w' => e = .panicked errX ∧ w' = w := by
  have d0 := hide (must_no w)
  by_cases h0 : 0 < s
  · have h1 : ¬ s < 512 := fun h1 => h ⟨h0, h1⟩
    clear h
    go_enter Try.func40, Try.ntmps40
    go_wp2_with fail
    refine d0.out.mono ?_
    rintro e w0 ⟨rfl, rfl⟩
    exact ⟨rfl, rfl, rfl⟩
  · clear h
    go_enter Try.func40, Try.ntmps40
    go_wp2_with fail
    refine d0.out.mono ?_
    rintro e w0 ⟨rfl, rfl⟩
    exact ⟨rfl, rfl, rfl⟩

set_option maxRecDepth 100000 in
set_option maxHeartbeats 1000000 in
theorem writeNumber_yes (n : Int) (hn : nuP n) (w : World) :
    Calls Try.prog 43 #[.int .i64 n] w fun e w' => ∃ a m c, e = .returned (.slice a m c) ∧ OwnB w' w.heap.size (.slice a m c) (nuB n) ∧ Below w.heap.size w w' := by
  have h0 : 0 ≤ n := hn
  have d0 := hide (must_yes w)
  have d1 := hide (putInt_any 2 n w)
  go_enter Try.func43, Try.ntmps43
  go_wp2_with fail
  refine d0.out.mono ?_
  rintro e w0 ⟨rfl, rfl⟩
  go_wp2_with fail
  refine d1.out.mono ?_
  rintro e w1 ⟨a, m, c, rfl, o1, B1⟩
  have HO := hide (And.intro o1 B1)
  clear o1 B1 d1 d0
  go_wp2
  go_ret
  exact ⟨a, m, c, rfl, HO.out.1, HO.out.2⟩
set_option maxRecDepth 100000 in
theorem writeNumber_no (n : Int) (h : ¬ nuP n) (w : World) : Calls Try.prog 43 #[.int .i64 n] w fun e w' => e = .panicked errX ∧ w' = w := by
  have d0 := hide (must_no w)
  have h0 : ¬ 0 ≤ n := h
  clear h
  go_enter Try.func43, Try.ntmps43
  go_wp2_with fail
  refine d0.out.mono ?_
  rintro e w0 ⟨rfl, rfl⟩
  exact ⟨rfl, rfl, rfl⟩
set_option maxRecDepth 100000 in
set_option maxHeartbeats 1000000 in
theorem writeReason_yes (n : Int) (hn : reP n) (w : World) :
    Calls Try.prog 45 #[.int .i64 n] w fun e w' => ∃ a m c, e = .returned (.slice a m c) ∧ OwnB w' w.heap.size (.slice a m c) (reB n) ∧ Below w.heap.size w w' := by
  obtain ⟨h0, h1, h2⟩ := hn
  have h7 : (n != 7) = true := by simpa using h2
  have d0 := hide (must_yes w)
  have d1 := hide (putInt_any 10 n w)
  clear h2
  go_enter Try.func45, Try.ntmps45
  go_wp2_with fail
  refine d0.out.mono ?_
  rintro e w0 ⟨rfl, rfl⟩
  go_wp2_with fail
  refine d1.out.mono ?_
  rintro e w1 ⟨a, m, c, rfl, o1, B1⟩
  have HO := hide (And.intro o1 B1)
  clear o1 B1 d1 d0
  go_wp2
  go_ret
  exact ⟨a, m, c, rfl, HO.out.1, HO.out.2⟩
set_option maxRecDepth 100000 in
theorem writeReason_no (n : Int) (h : ¬ reP n) (w : World) : Calls Try.prog 45 #[.int .i64 n] w fun e w' => e = .panicked errX ∧ w' = w := by
  have d0 := hide (must_no w)
  by_cases h0 : 0 ≤ n
  · by_cases h1 : n ≤ 10
    · have h7 : (n != 7) = false := by
        by_cases e : n = 7
        · simp [e]
        · exact absurd ⟨h0, h1, e⟩ h
      clear h
      go_enter Try.func45, Try.ntmps45
      go_wp2_with fail
      refine d0.out.mono ?_
      rintro e w0 ⟨rfl, rfl⟩
      exact ⟨rfl, rfl, rfl⟩
    · clear h
      go_enter Try.func45, Try.ntmps45
      go_wp2_with fail
      refine d0.out.mono ?_
      rintro e w0 ⟨rfl, rfl⟩
      exact ⟨rfl, rfl, rfl⟩
  · clear h
    go_enter Try.func45, Try.ntmps45
    go_wp2_with fail
    refine d0.out.mono ?_
    rintro e w0 ⟨rfl, rfl⟩
    exact ⟨rfl, rfl, rfl⟩

end Go.Proofs.Ytaeddbkkkiefcaa
