/-
  ext: the bytes of an element told plainly; Basic, Subject, Issuer.
-/
import Derived.Test.YtaeddbkkkiefcaaExF
import Derived.Test.YtaeddbkkkiefcaaRPut
namespace Go.Proofs.Ytaeddbkkkiefcaa
open Go.RowKit Go.IntWalk

/-- An element's bytes. -/
def elB (tag : Int) (xs : List Int) : List Int := [tag] ++ lenB xs.length ++ xs
theorem putS_el (tag : Int) (ls : List (List Int)) (ht : isTagB tag = true) (h : ls.flatten.length ≤ 16777215) : (putS [] tag ls).1 = elB tag ls.flatten := by
  unfold putS elB
  rw [if_neg (by simp [ht]), if_neg (by omega)]
  simp
theorem elB_byte (tag : Int) (xs : List Int) (h0 : 0 ≤ tag) (h1 : tag < 256) (h : xs.length < 16777216) (hx : ∀ x ∈ xs, 0 ≤ x ∧ x < 256) : ∀ x ∈ elB tag xs, 0 ≤ x ∧ x < 256 := by
  intro x hm
  unfold elB at hm
  simp only [List.mem_append, List.mem_singleton] at hm
  rcases hm with (rfl | hm) | hm
  · exact ⟨h0, h1⟩
  · exact lenB_byte _ h x hm
  · exact hx x hm
theorem elB_len (tag : Int) (xs : List Int) : (elB tag xs).length ≤ 5 + xs.length := by
  have := lenB_len4 xs.length
  simp only [elB, List.length_append, List.length_singleton]
  omega

theorem trueB_el (v : Bool) : trueB v = if v then elB 1 [255] else [] := by
  unfold trueB
  rw [putS_el 1 _ rfl (by simp)]
  rfl
theorem trueB_byte (v : Bool) : ∀ x ∈ trueB v, 0 ≤ x ∧ x < 256 := by
  rw [trueB_el]
  split
  · exact elB_byte 1 _ (by decide) (by decide) (by simp) (by simp)
  · simp
theorem trueB_len (v : Bool) : (trueB v).length ≤ 6 := by
  rw [trueB_el]
  split
  · exact elB_len _ _
  · simp
theorem intE (tag n : Int) (ht : isTagB tag = true) : (putS [] tag [intS n]).1 = elB tag (intS n) := by
  have := intS_len n
  rw [putS_el tag _ ht (by simp; omega)]
  simp
/-- A path's bytes; none, where none is said. -/
def pathB (n : Int) : List Int := if n = -1 then [] else elB 2 (intS n)
theorem pathB_byte (n : Int) : ∀ x ∈ pathB n, 0 ≤ x ∧ x < 256 := by
  unfold pathB
  have := intS_len n
  split
  · simp
  · exact elB_byte 2 _ (by decide) (by decide) (by omega) (intS_byte n)
theorem pathB_len (n : Int) : (pathB n).length ≤ 13 := by
  have := intS_len n
  have := elB_len 2 (intS n)
  unfold pathB
  split
  · simp
  · omega
/-- May a Basic be? its bytes. -/
abbrev baP (v : Bool) (n : Int) : Prop := n = -1 ∨ (v = true ∧ 0 ≤ n ∧ n ≤ 100)
def baB (v : Bool) (n : Int) : List Int := elB 48 (trueB v ++ pathB n)
theorem baB_put (v : Bool) (n : Int) : (putS [] 48 [trueB v, pathB n]).1 = baB v n := by
  have := trueB_len v
  have := pathB_len n
  rw [putS_el 48 _ rfl (by simp; omega)]
  simp [baB]


set_option maxRecDepth 100000 in
set_option maxHeartbeats 2000000 in
theorem writeBasic_yes (v : Bool) (n : Int) (h : baP v n) (w : World) :
    Calls Try.prog 34 #[.agg #[.bool v, .int .i64 n]] w fun e w' => ∃ a m c, e = .returned (.slice a m c) ∧ OwnB w' w.heap.size (.slice a m c) (baB v n) ∧ Below w.heap.size w w' := by
  have BX := xbelow w (.cells #[.bool v, .int .i64 n] 23)
  have hz : (w.alloc (.cells #[.bool v, .int .i64 n] 23)).heap.size = w.heap.size + 1 := by simp
  have d0 := hide (must_yes (w.alloc (.cells #[.bool v, .int .i64 n] 23)))
  have k0 : (w.alloc (.cells #[.bool v, .int .i64 n] 23)).cell? ⟨w.heap.size, 0, none⟩ = some (.bool v) := by simp
  have k1 : (w.alloc (.cells #[.bool v, .int .i64 n] 23)).cell? ⟨w.heap.size, 1, none⟩ = some (.int .i64 n) := by simp
  have hp := hide (baB_put v n)
  have htb := hide (trueB_byte v)
  have hpb := hide (pathB_byte n)
  by_cases hn : n = -1
  · subst hn
    have e1 : pathB (-1) = [] := rfl
    rw [e1] at hp hpb
    have d1 := hide (putTrue_any v (w.alloc (.cells #[.bool v, .int .i64 (-1)] 23)))
    clear h
    go_enter Try.func34, Try.ntmps34
    go_wp2_with fail
    refine d0.out.mono ?_
    rintro e w0 ⟨rfl, rfl⟩
    go_wp2_with fail
    refine d1.out.mono ?_
    rintro e w1 ⟨a, m, c, rfl, o1, B1⟩
    have S1 := o1.toSrc htb.out
    have BB := BX.trans (B1.mono BX.size)
    clear d0 d1 o1 B1
    -- behind the parts' calls: w1 the memory, S1 the first's fact, .slice none 0 0 the second's slice, src_nil w1 its fact, BB the walk's memory so far
    have BY := xbelow w1 (.cells #[.slice a m c, .slice none 0 0] 27)
    have d9 := hide (putX_any 48 _ _ _ _ _ (w1.alloc (.cells #[.slice a m c, .slice none 0 0] 27)) (parts_two (b := w1.heap.size) (by simp) (by simp) ((S1).below BY) ((src_nil w1).below BY)) (by decide))
    have HB := hide (BB.trans (BY.mono BB.size))
    clear BY
    go_wp2_with fail
    refine d9.out.mono ?_
    rintro e w5 ⟨a5, m5, c5, rfl, o5, B5⟩
    have HO := hide (And.intro o5 B5)
    clear o5 B5 d9
    go_wp2
    go_ret
    refine ⟨a5, m5, c5, rfl, ?_, HB.out.trans (HO.out.2.mono HB.out.size)⟩
    have := HO.out.1.rebaseX HB.out.size
    rw [hp.out] at this
    exact this
  · obtain ⟨hv, h0, h1⟩ := h.resolve_left hn
    subst hv
    have e1 : pathB n = elB 2 (intS n) := by unfold pathB; rw [if_neg hn]
    have hE : (n == -1) = false := by simpa using hn
    have hE2 : (n != -1) = true := by simpa using hn
    rw [e1, ← intE 2 n rfl] at hp hpb
    have d1 := hide (putInt_any 2 n (w.alloc (.cells #[.bool true, .int .i64 n] 23)))
    have d2 := hide (putTrue_any true)
    clear h hn
    generalize (putS [] 2 [intS n]).1 = PI at *
    go_enter Try.func34, Try.ntmps34
    go_wp2_with fail
    refine d0.out.mono ?_
    rintro e w0 ⟨rfl, rfl⟩
    go_wp2_with fail
    refine d1.out.mono ?_
    rintro e w1 ⟨a1, m1, c1, rfl, o1, B1⟩
    have S1 := o1.toSrc hpb.out
    have z1 := B1.size
    have k2 : w1.cell? ⟨w.heap.size, 0, none⟩ = some (.bool true) := (B1.cell (by show w.heap.size < _; omega)).trans k0
    have BB := BX.trans (B1.mono BX.size)
    clear d0 d1 o1 B1
    go_wp2_with fail
    refine (d2.out w1).mono ?_
    rintro e w2 ⟨a, m, c, rfl, o2, B2⟩
    have S2 := o2.toSrc htb.out
    have S3 := S1.below B2
    have BC := BB.trans (B2.mono BB.size)
    clear d2 o2 B2 BB S1
    -- behind the parts' calls: w2 the memory, S2 the first's fact, .slice a1 m1 c1 the second's slice, S3 its fact, BC the walk's memory so far
    have BY := xbelow w2 (.cells #[.slice a m c, .slice a1 m1 c1] 27)
    have d9 := hide (putX_any 48 _ _ _ _ _ (w2.alloc (.cells #[.slice a m c, .slice a1 m1 c1] 27)) (parts_two (b := w2.heap.size) (by simp) (by simp) ((S2).below BY) ((S3).below BY)) (by decide))
    have HB := hide (BC.trans (BY.mono BC.size))
    clear BY
    go_wp2_with fail
    refine d9.out.mono ?_
    rintro e w5 ⟨a5, m5, c5, rfl, o5, B5⟩
    have HO := hide (And.intro o5 B5)
    clear o5 B5 d9
    go_wp2
    go_ret
    refine ⟨a5, m5, c5, rfl, ?_, HB.out.trans (HO.out.2.mono HB.out.size)⟩
    have := HO.out.1.rebaseX HB.out.size
    rw [hp.out] at this
    exact this

end Go.Proofs.Ytaeddbkkkiefcaa
