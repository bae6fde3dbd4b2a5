/-
  ext: what may not be; the face of Basic; Subject and Issuer.
-/
import Derived.Test.YtaeddbkkkiefcaaExQ
namespace Go.Proofs.Ytaeddbkkkiefcaa
open Go.RowKit Go.IntWalk

set_option maxRecDepth 100000 in
theorem writeBasic_no (v : Bool) (n : Int) (h : ¬ baP v n) (w : World) : Calls Try.prog 34 #[.agg #[.bool v, .int .i64 n]] w fun e w' => e = .panicked errX ∧ Below w.heap.size w w' := by
  have BX := xbelow w (.cells #[.bool v, .int .i64 n] 23)
  have d0 := hide (must_no (w.alloc (.cells #[.bool v, .int .i64 n] 23)))
  have k0 : (w.alloc (.cells #[.bool v, .int .i64 n] 23)).cell? ⟨w.heap.size, 0, none⟩ = some (.bool v) := by simp
  have k1 : (w.alloc (.cells #[.bool v, .int .i64 n] 23)).cell? ⟨w.heap.size, 1, none⟩ = some (.int .i64 n) := by simp
  have hE : (n == -1) = false := by
    by_cases e : n = -1
    · exact absurd (.inl e) h
    · simpa using e
  cases v with
  | false =>
    clear h
    go_enter Try.func34, Try.ntmps34
    go_wp2_with fail
    refine d0.out.mono ?_
    rintro e w0 ⟨rfl, rfl⟩
    exact ⟨rfl, rfl, BX⟩
  | true =>
    by_cases h0 : 0 ≤ n
    · have h1 : ¬ n ≤ 100 := fun h1 => h (.inr ⟨rfl, h0, h1⟩)
      clear h
      go_enter Try.func34, Try.ntmps34
      go_wp2_with fail
      refine d0.out.mono ?_
      rintro e w0 ⟨rfl, rfl⟩
      exact ⟨rfl, rfl, BX⟩
    · clear h
      go_enter Try.func34, Try.ntmps34
      go_wp2_with fail
      refine d0.out.mono ?_
      rintro e w0 ⟨rfl, rfl⟩
      exact ⟨rfl, rfl, BX⟩

/-- A key's identifier as it is handed about: 20 bytes. -/
def kv (X : List Int) : Value := .agg (X.map (Value.int .u8)).toArray
theorem Try.lenK : Try.prog.arrayLen 26 = 20 := by kernel_rfl
theorem Try.elemK : Try.prog.elem 26 = 5 := by kernel_rfl
theorem Try.arrK : Try.prog.underlying 26 = some (.array (Try.prog.arrayLen 26) (Try.prog.elem 26)) := by rw [Try.lenK, Try.elemK]; exact Try.underlying26
theorem Try.sizeK (w : World) : (sizeOf (Try.prog.elem 26)).run Try.prog w = .ok 1 w := by rw [Try.elemK]; kernel_rfl
theorem slice_allK (W : World) (b o : Nat) : (Instr.sliceAt 26 (.pointer (some ⟨b, o, none⟩)) none none none).run Try.prog W = .ok (.slice (some ⟨b, o, none⟩) 20 20) W := by
  rw [run_sliceAt_array_all W _ _ Try.arrK, Try.sizeK, Try.lenK]
  simp [slicedAt, Result.andThen, add_none]
theorem Try.lenA20 : Try.prog.arrayLen 25 = 20 := by kernel_rfl
theorem Try.elemA20 : Try.prog.elem 25 = 5 := by kernel_rfl
theorem Try.arrA20 : Try.prog.underlying 25 = some (.array (Try.prog.arrayLen 25) (Try.prog.elem 25)) := by rw [Try.lenA20, Try.elemA20]; exact Try.underlying25
theorem Try.sizeA20 (w : World) : (sizeOf (Try.prog.elem 25)).run Try.prog w = .ok 1 w := by rw [Try.elemA20]; kernel_rfl
theorem slice_all20 (W : World) (b o : Nat) : (Instr.sliceAt 25 (.pointer (some ⟨b, o, none⟩)) none none none).run Try.prog W = .ok (.slice (some ⟨b, o, none⟩) 20 20) W := by
  rw [run_sliceAt_array_all W _ _ Try.arrA20, Try.sizeA20, Try.lenA20]
  simp [slicedAt, Result.andThen, add_none]
theorem src_key (X : List Int) (w : World) (T : TypeId) (hX : X.length = 20) (hb : ∀ x ∈ X, 0 ≤ x ∧ x < 256) : Src (w.alloc (.cells (X.map (Value.int .u8)).toArray T)) (some ⟨w.heap.size, 0, none⟩) 20 20 X := by
  refine ⟨hX, Nat.le_refl _, by decide, by simp, fun _ => ⟨w.heap.size, 0, rfl, fun i hi => ?_⟩, hb⟩
  simp [hi, List.getD]

/-- A subject's, an issuer's bytes. -/
def subB (X : List Int) : List Int := elB 4 X
def issB (X : List Int) : List Int := elB 48 (elB 128 X)

set_option maxRecDepth 100000 in
set_option maxHeartbeats 1000000 in
theorem putKey_own (tag : Int) (X : List Int) (A : Array Value) (w : World) (BX : Below w.heap.size w (w.alloc (.cells A 26))) (SX : Src (w.alloc (.cells A 26)) (some ⟨w.heap.size, 0, none⟩) 20 20 X) :
    Calls Try.prog 46 #[.int .i64 tag, .slice (some ⟨w.heap.size + 1, 0, none⟩) 1 1] ((w.alloc (.cells A 26)).alloc (.cells #[.slice (some ⟨w.heap.size, 0, none⟩) 20 20] 27))
      fun e w' => ∃ a m c, e = .returned (.slice a m c) ∧ OwnB w' (w.heap.size + 1) (.slice a m c) (putS [] tag [X]).1 ∧ Below w.heap.size w w' := by
  have hz : (w.alloc (.cells A 26)).heap.size = w.heap.size + 1 := by simp
  have BY := xbelow (w.alloc (.cells A 26)) (.cells #[.slice (some ⟨w.heap.size, 0, none⟩) 20 20] 27)
  have HB := BX.trans (BY.mono BX.size)
  have d9 := putX_any tag _ _ _ _ _ ((w.alloc (.cells A 26)).alloc (.cells #[.slice (some ⟨w.heap.size, 0, none⟩) 20 20] 27)) (parts_one (b := w.heap.size + 1) (by rw [← hz]; simp) (SX.below BY)) (by decide)
  refine d9.mono ?_
  rintro e w2 ⟨a, m, c, rfl, o2, B2⟩
  refine ⟨a, m, c, rfl, o2.rebaseX ?_, HB.trans (B2.mono HB.size)⟩
  have := BY.size
  omega

set_option maxRecDepth 100000 in
set_option maxHeartbeats 1000000 in
theorem putKey_doc (tag : Int) (X : List Int) (A : Array Value) (w : World) (BX : Below w.heap.size w (w.alloc (.cells A 25))) (SX : Src (w.alloc (.cells A 25)) (some ⟨w.heap.size, 0, none⟩) 20 20 X) :
    Calls Try.prog 46 #[.int .i64 tag, .slice (some ⟨w.heap.size + 1, 0, none⟩) 1 1] ((w.alloc (.cells A 25)).alloc (.cells #[.slice (some ⟨w.heap.size, 0, none⟩) 20 20] 27))
      fun e w' => ∃ a m c, e = .returned (.slice a m c) ∧ OwnB w' (w.heap.size + 1) (.slice a m c) (putS [] tag [X]).1 ∧ Below w.heap.size w w' := by
  have hz : (w.alloc (.cells A 25)).heap.size = w.heap.size + 1 := by simp
  have BY := xbelow (w.alloc (.cells A 25)) (.cells #[.slice (some ⟨w.heap.size, 0, none⟩) 20 20] 27)
  have HB := BX.trans (BY.mono BX.size)
  have d9 := putX_any tag _ _ _ _ _ ((w.alloc (.cells A 25)).alloc (.cells #[.slice (some ⟨w.heap.size, 0, none⟩) 20 20] 27)) (parts_one (b := w.heap.size + 1) (by rw [← hz]; simp) (SX.below BY)) (by decide)
  refine d9.mono ?_
  rintro e w2 ⟨a, m, c, rfl, o2, B2⟩
  refine ⟨a, m, c, rfl, o2.rebaseX ?_, HB.trans (B2.mono HB.size)⟩
  have := BY.size
  omega

set_option maxRecDepth 100000 in
set_option maxHeartbeats 1000000 in
theorem subject_any (X : List Int) (hX : X.length = 20) (hb : ∀ x ∈ X, 0 ≤ x ∧ x < 256) (w : World) :
    Calls Try.prog 14 #[kv X] w fun e w' => ∃ a m c, e = .returned (.slice a m c) ∧ OwnB w' w.heap.size (.slice a m c) (subB X) ∧ Below w.heap.size w w' := by
  have he := hide (show (putS [] 4 [X]).1 = subB X by rw [putS_el 4 _ rfl (by simp; omega)]; simp [subB])
  -- chancery/api.KeyId the array's type, slice_allK the slice's fact
  have BX := xbelow w (.cells (X.map (Value.int .u8)).toArray 26)
  have SX := src_key X w 26 hX hb
  have hz : (w.alloc (.cells (X.map (Value.int .u8)).toArray 26)).heap.size = w.heap.size + 1 := by simp
  have hsl := slice_allK
  unfold kv
  generalize (X.map (Value.int .u8)).toArray = A at *
  have d9 := hide (putKey_own 4 X A w BX SX)
  clear SX BX hz hX hb
  go_enter Try.func14, Try.ntmps14
  go_wp2_with fail
  refine d9.out.mono ?_
  rintro e w2 ⟨a, m, c, rfl, o2, B2⟩
  have HO := hide (And.intro o2 B2)
  clear o2 B2 d9
  go_wp2
  go_ret
  refine ⟨a, m, c, rfl, ?_, HO.out.2⟩
  rw [← he.out]
  exact HO.out.1.rebaseX (by omega)

set_option maxRecDepth 100000 in
set_option maxHeartbeats 1000000 in
theorem issuer_any (X : List Int) (hX : X.length = 20) (hb : ∀ x ∈ X, 0 ≤ x ∧ x < 256) (w : World) :
    Calls Try.prog 16 #[kv X] w fun e w' => ∃ a m c, e = .returned (.slice a m c) ∧ OwnB w' w.heap.size (.slice a m c) (issB X) ∧ Below w.heap.size w w' := by
  have he := hide (show (putS [] 48 [(putS [] 128 [X]).1]).1 = issB X by
    have := elB_len 128 X
    rw [putS_el 128 _ rfl (by simp; omega), putS_el 48 _ rfl (by simp; omega)]; simp [issB])
  have hpb := hide (show ∀ x ∈ (putS [] 128 [X]).1, 0 ≤ x ∧ x < 256 by
    rw [putS_el 128 _ rfl (by simp; omega)]
    exact elB_byte 128 _ (by decide) (by decide) (by simp; omega) (by simpa using hb))
  -- chancery/api.KeyId the array's type, slice_allK the slice's fact
  have BX := xbelow w (.cells (X.map (Value.int .u8)).toArray 26)
  have SX := src_key X w 26 hX hb
  have hz : (w.alloc (.cells (X.map (Value.int .u8)).toArray 26)).heap.size = w.heap.size + 1 := by simp
  have hsl := slice_allK
  unfold kv
  generalize (X.map (Value.int .u8)).toArray = A at *
  have d9 := hide (putKey_own 128 X A w BX SX)
  clear SX BX hz hX hb
  generalize (putS [] 128 [X]).1 = P at *
  go_enter Try.func16, Try.ntmps16
  go_wp2_with fail
  refine d9.out.mono ?_
  rintro e w1 ⟨a, m, c, rfl, o2, B2⟩
  have SR := o2.toSrc hpb.out
  have BY := xbelow w1 (.cells #[.slice a m c] 27)
  have d8 := hide (putX_any 48 _ _ _ _ _ (w1.alloc (.cells #[.slice a m c] 27)) (parts_one (b := w1.heap.size) (by simp) (SR.below BY)) (by decide))
  have HB := hide (B2.trans (BY.mono B2.size))
  clear BY SR B2 o2 d9
  go_wp2_with fail
  refine d8.out.mono ?_
  rintro e w2 ⟨a2, m2, c2, rfl, o2, B2⟩
  have HO := hide (And.intro o2 B2)
  clear o2 B2 d8
  go_wp2
  go_ret
  refine ⟨a2, m2, c2, rfl, ?_, HB.out.trans (HO.out.2.mono HB.out.size)⟩
  rw [← he.out]
  exact HO.out.1.rebaseX HB.out.size

end Go.Proofs.Ytaeddbkkkiefcaa
