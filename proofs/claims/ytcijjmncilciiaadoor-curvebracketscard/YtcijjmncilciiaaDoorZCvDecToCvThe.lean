/-
  What a row of bytes is read as; curve.Decode.
  The document's Decode.
  The law's theirs; the document's Neg.
-/
import Derived.Test.YtcijjmncilciiaaDoorZCvGatToMore
import Derived.Laws.CopyRow
namespace Go.Proofs.YtcijjmncilciiaaDoor
open Go.RowKit Go.IntWalk
attribute [local go_sem ↓] ld_num st_num ld_pln st_pln ld_ops st_ops ld_pnt st_pnt ld_dig st_dig ld_tri st_tri eq_num ne_num eq_pnt ne_pnt bd_pnt ld_F st_F eq_F ld_a32 st_a32 ld_rpt st_rpt eq_rpt bd_rpt eq_dgs

/-- The two coordinates in a row of 65 bytes. -/
def cX (xs : List Int) : List Int := (xs.drop 1).take 32
def cY (xs : List Int) : List Int := xs.drop 33
def decE (xs : List Int) : Int := if xs.length = 65 ∧ xs.getD 0 0 = 4 then (if onP (cX xs) (cY xs) false = true then 0 else 100) else 20
def decX (xs : List Int) : List Int := if decE xs = 0 then cX xs else z32
def decY (xs : List Int) : List Int := if decE xs = 0 then cY xs else z32

theorem dec_form {xs : List Int} (h : ¬ (xs.length = 65 ∧ xs.getD 0 0 = 4)) : decE xs = 20 ∧ decX xs = z32 ∧ decY xs = z32 := by
  have e : decE xs = 20 := by unfold decE; rw [if_neg h]
  refine ⟨e, ?_, ?_⟩
  · unfold decX; rw [if_neg (by omega)]
  · unfold decY; rw [if_neg (by omega)]
theorem dec_off {xs : List Int} (h : xs.length = 65 ∧ xs.getD 0 0 = 4) (ho : onP (cX xs) (cY xs) false = false) : decE xs = 100 ∧ decX xs = z32 ∧ decY xs = z32 := by
  have e : decE xs = 100 := by unfold decE; rw [if_pos h, ho]; rfl
  refine ⟨e, ?_, ?_⟩
  · unfold decX; rw [if_neg (by omega)]
  · unfold decY; rw [if_neg (by omega)]
theorem dec_on {xs : List Int} (h : xs.length = 65 ∧ xs.getD 0 0 = 4) (ho : onP (cX xs) (cY xs) false = true) : decE xs = 0 ∧ decX xs = cX xs ∧ decY xs = cY xs := by
  have e : decE xs = 0 := by unfold decE; rw [if_pos h, ho]; rfl
  refine ⟨e, ?_, ?_⟩
  · unfold decX; rw [if_pos e]
  · unfold decY; rw [if_pos e]
theorem cX_len {xs : List Int} (h : xs.length = 65) : (cX xs).length = 32 := by simp [cX, h]
theorem cY_len {xs : List Int} (h : xs.length = 65) : (cY xs).length = 32 := by simp [cY, h]
theorem z32_len : z32.length = 32 := rfl
theorem decX_len (xs : List Int) : (decX xs).length = 32 := by
  unfold decX
  split
  · rename_i h
    refine cX_len ?_
    unfold decE at h
    split at h
    · rename_i h1; exact h1.1
    · simp at h
  · rfl
theorem decY_len (xs : List Int) : (decY xs).length = 32 := by
  unfold decY
  split
  · rename_i h
    refine cY_len ?_
    unfold decE at h
    split at h
    · rename_i h1; exact h1.1
    · simp at h
  · rfl
theorem cX_dg {xs : List Int} (h : ∀ x ∈ xs, 0 ≤ x ∧ x < 256) : Dg 256 (cX xs) := fun x hx => h x (List.mem_of_mem_drop (List.mem_of_mem_take hx))
theorem cY_dg {xs : List Int} (h : ∀ x ∈ xs, 0 ≤ x ∧ x < 256) : Dg 256 (cY xs) := fun x hx => h x (List.mem_of_mem_drop hx)

theorem bdP_zero (w : World) : (bdA 25 #[]).run Tryd.prog w = .ok (.agg PZ.toArray) w := by kernel_rfl
theorem bdR_zero (w : World) : (bdA 33 #[]).run Tryd.prog w = .ok (.agg PZ.toArray) w := by kernel_rfl

theorem Tryd.lenAD : Tryd.prog.arrayLen 23 = 32 := by kernel_rfl
theorem Tryd.elemAD : Tryd.prog.elem 23 = 5 := by kernel_rfl
theorem Tryd.arrAD : Tryd.prog.underlying 23 = some (.array (Tryd.prog.arrayLen 23) (Tryd.prog.elem 23)) := by rw [Tryd.lenAD, Tryd.elemAD]; exact Tryd.underlying23
theorem Tryd.sizeAD (w : World) : (sizeOf (Tryd.prog.elem 23)).run Tryd.prog w = .ok 1 w := by rw [Tryd.elemAD]; kernel_rfl
theorem slice_allD (W : World) (b o : Nat) : (Instr.sliceAt 23 (.pointer (some ⟨b, o, none⟩)) none none none).run Tryd.prog W = .ok (.slice (some ⟨b, o, none⟩) 32 32) W := by
  rw [run_sliceAt_array_all W _ _ Tryd.arrAD, Tryd.sizeAD, Tryd.lenAD]
  simp [slicedAt, Result.andThen, addNone]

theorem copyS (W : World) (ty : TypeId) (g o m : Nat) (T : TypeId) (A X C : List Value) (a : Option Addr) (n c dl dc : Nat) (ys : List Int) (hB : Blk T W g (A ++ X ++ C)) (ho : A.length = o) (hs : Src W a n c ys) (hm : X.length = m) (hm2 : Nat.min n dl = m) (h0 : 0 < m) :
    (Builtin.copy_ #[47, 47] ty #[.slice (some ⟨g, o, none⟩) dl dc, .slice a n c]).run Tryd.prog W = .ok (.int .i64 (m : Int)) (W.setCells g o ((ys.take m).map (Value.int .u8))) := by
  have hn : m ≤ n := by rw [← hm2]; exact Nat.min_le_left _ _
  have hl := hs.hlen
  have hy : ys ≠ [] := by intro h; subst h; simp at hl; omega
  obtain ⟨b, off, rfl, hc⟩ := hs.hrd hy
  have hlen : ((ys.take m).map (Value.int .u8)).length = m := by simp; omega
  have := run_copy_cells (P := Tryd.prog) W 47 47 ty 5 g o dl dc ⟨b, off, none⟩ n c ((ys.take m).map (Value.int .u8)) Tryd.underlying47 (by kernel_rfl) (by rw [hlen, hm2]) ?_ ?_ ?_ (ints_one _ _)
  · rw [this, hlen]
    rfl
  · intro j v hv
    have hj : j < m := by have := (List.getElem?_eq_some_iff.1 hv).1; omega
    rw [addNone, hc j (by omega)]
    rw [List.getElem?_map, List.getElem?_take, if_pos hj, List.getElem?_eq_getElem (by omega)] at hv
    simp at hv
    subst hv
    simp [List.getD, show j < ys.length by omega]
  · intro j hj
    exact (hB.there o m (by simp; omega) j (by omega)).1
  · intro j hj
    exact (hB.there o m (by simp; omega) j (by omega)).2

theorem below_dsets {g : Nat} {w W : World} (h : Below w.heap.size w W) (hg : w.heap.size ≤ g) (o : Nat) (vs : List Value) : Below w.heap.size w (W.drew.setCells g o vs) :=
  below_sets (W := W.drew) ⟨h.os, h.tape, h.output, h.size, h.block⟩ hg h.size o vs

/-- What a call answers that reads a point. -/
def Rd (xs : List Int) (w : World) (e : Ending) (w' : World) : Prop := e = .returned (.tuple #[.agg (pL (decX xs) (decY xs) false).toArray, .int .i64 (decE xs)]) ∧ Below w.heap.size w w'

theorem rd_ret {fn : Func} {p q : Tmp} {ty : TypeId} {d : TypeDesc} (h : fn.results = #[.cell p ty, .tmp q]) {tmps : Array Value} {w w1 : World} {T : TypeId} {g : Nat} {xs : List Int} {Z : List Value} {L : List Value} (hp : tmps.getD p undef = .pointer (some ⟨g, 0, none⟩)) (hq : tmps.getD q undef = .int .i64 (decE xs))
    (hu : Tryd.prog.underlying ty = some d) (hd : d.isRow = true) (hi : (Tryd.prog.info? ty).map (·.size) = some 65) (HZ : Blk T w1 g Z) (hZ : Z.length = 65) (hL : L = pL (decX xs) (decY xs) false) (LB : Below w.heap.size w w1) (hg : w.heap.size ≤ g) :
    bodyPost Tryd.prog fn (Rd xs w) .ret { tmps := tmps, defers := [] } (w1.setCells g 0 L) := by
  subst hL
  have hl := pL_len (decX_len xs) (decY_len xs) false
  refine bodyPost_ret (v := .tuple #[.agg (pL (decX xs) (decY xs) false).toArray, .int .i64 (decE xs)]) ?_ rfl ⟨rfl, below_sets LB hg LB.size _ _⟩
  rw [← hq]
  exact res_two (T := T) (p := p) (q := q) (ty := ty) (X := pL (decX xs) (decY xs) false) h _ _ hp hu hd (by rw [hl]; exact hi) (blk_all HZ (by rw [hZ, hl]))

set_option maxRecDepth 100000 in
set_option maxHeartbeats 1000000 in
theorem decode_any (ao : Option Addr) (n c : Nat) (xs : List Int) (w : World) (hC : Cv w) (hs : Src w ao n c xs) :
    Calls Tryd.prog 26 #[.slice ao n c] w (Rd xs w) := by
  have HL := hide hs.hlen
  have HY := hide hs.hbyt
  have hcap := hs.hcap
  have hmax := hs.hmax
  have HS := hide hs
  have HC := hide hC
  have hbz := bdP_zero
  have Z0 := hide (Blk.new (T := 25) w PZ Tryd.zeroCells25 w.heap.size zc_pnt rfl)
  have U0 := hide (below1 w (.cells Tryd.zeroCells25 25))
  have HPZ : Hid (PZ = pL z32 z32 false) := rfl
  have HPL : Hid (PZ.length = 65) := rfl
  have hone : ∀ v ∈ PZ, v.oneCell' = true := pL_one _ _ _
  have hst0 : (stA 25 (.pointer (some ⟨w.heap.size, 0, none⟩)) (.agg PZ.toArray)).run Tryd.prog (w.alloc (.cells Tryd.zeroCells25 25)) = .ok () ((w.alloc (.cells Tryd.zeroCells25 25)).setCells w.heap.size 0 PZ) := stPt (f := false) z32_len z32_len Z0.out rfl
  have hmI : (n : Int) ≤ 9223372036854775807 := by unfold maxLen at hmax; omega
  generalize PZ = LZ at *
  clear hC hs
  by_cases h65 : n = 65
  · subst h65
    have hlx := HL.out
    obtain ⟨b, off, rfl, hcell⟩ := HS.out.hrd (by intro h; rw [h] at hlx; simp at hlx)
    have hb := lt_of_cell (hcell 0 (by omega))
    have hb' : b < w.heap.size := hb
    have c0 := ((HS.out.alloc (.cells Tryd.zeroCells25 25)).hrd (by intro h; rw [h] at hlx; simp at hlx))
    obtain ⟨b', off', he', hcell'⟩ := c0
    simp only [Option.some.injEq, Addr.mk.injEq, and_true] at he'
    obtain ⟨rfl, rfl⟩ := he'
    have c0 := hcell' 0 (by omega)
    simp only [Nat.add_zero] at c0
    have hcI : (65 : Int) ≤ (c : Int) := by omega
    clear hcell hcell' hb hlx
    by_cases h4 : xs.getD 0 0 = 4
    · rw [h4] at c0
      have hok : Hid (xs.length = 65 ∧ xs.getD 0 0 = 4) := ⟨HL.out, h4⟩
      have hsl := slice_allD
      have s1 := fun W : World => slice_lo W (some ⟨b, off, none⟩) 65 c 1 1 rfl (by omega)
      have s2 := fun W : World => slice_lo W (some ⟨b, off, none⟩) 65 c 33 33 rfl (by omega)
      simp only [Nat.reduceSub] at s1 s2
      have HLX := hide (cX_len HL.out)
      have HLY := hide (cY_len HL.out)
      have HON : Hid (∀ W, Cv W → Calls Tryd.prog 23 #[.agg (pL (cX xs) (cY xs) false).toArray] W fun e w' => e = .returned (.bool (onP (cX xs) (cY xs) false)) ∧ Below W.heap.size W w') := fun W hW => on_any _ _ false HLX.out HLY.out (cX_dg HY.out) (cY_dg HY.out) W hW
      obtain ⟨V, hV⟩ : ∃ V, V = ((w.alloc (.cells Tryd.zeroCells25 25)).alloc (.cells Tryd.zeroCells25 25)) := ⟨_, rfl⟩
      have ZV : Hid (Blk 25 V w.heap.size LZ) := by rw [hV]; exact Z0.out.alloc _
      have PV : Hid (Blk 25 V (w.heap.size + 1) (pL z32 z32 false)) := by rw [hV]; exact Blk.new (T := 25) _ PZ Tryd.zeroCells25 (w.heap.size + 1) zc_pnt (by simp)
      have SV : Hid (Src V (some ⟨b, off, none⟩) 65 c xs) := by rw [hV]; exact (HS.out.alloc _).alloc _
      have CV : Hid (Cv V) := by rw [hV]; exact (HC.out.alloc _).alloc _
      have UV : Hid (Below w.heap.size w V) := by rw [hV]; exact below2 w _ _
      have hx1 : ((cX xs).map (Value.int .u8)) = ((xs.drop 1).take 32).map (Value.int .u8) := rfl
      have SX : Src V.drew (cutA (some ⟨b, off, none⟩) c 1) 64 (c - 1) (xs.drop 1) := by
        have := (SV.out.heap (w' := V.drew) rfl).cut 1 65 (by omega) (Nat.le_refl _)
        rwa [List.take_of_length_le (by rw [HL.out]; omega)] at this
      have cp1 := copyS V.drew 3 (w.heap.size + 1) 0 32 25 [] (bV z32) (bV z32 ++ [.bool false]) (cutA (some ⟨b, off, none⟩) c 1) 64 (c - 1) 32 32 (xs.drop 1) (by have := PV.out.heap (w' := V.drew) rfl; unfold pL at this; rwa [List.append_assoc] at this) rfl SX rfl rfl (by omega)
      obtain ⟨W1, hW1⟩ : ∃ W1, W1 = V.drew.setCells (w.heap.size + 1) 0 (((xs.drop 1).take 32).map (Value.int .u8)) := ⟨_, rfl⟩
      have PW1 : Hid (Blk 25 W1 (w.heap.size + 1) (pL (cX xs) z32 false)) := by
        rw [hW1]
        have := Blk.mid [] (bV z32) (bV z32 ++ [.bool false]) (bV (cX xs)) 0 V.drew (T := 25) (g := w.heap.size + 1) (by have := PV.out.heap (w' := V.drew) rfl; unfold pL at this; rwa [List.append_assoc] at this) rfl (by rw [bV_len, bV_len, HLX.out]; rfl)
        rw [List.nil_append, ← List.append_assoc] at this
        exact this
      have hne : ¬ b = w.heap.size + 1 := by omega
      have gs1 := (gSets (w.heap.size + 1) (((xs.drop 1).take 32).map (Value.int .u8)) 0 V.drew)
      have SW1 : Hid (Src W1 (some ⟨b, off, none⟩) 65 c xs) := by
        rw [hW1]
        exact (SV.out.heap (w' := V.drew) rfl).grown gs1.1 (fun b' off' h _ => by cases h; simp; omega)
      have ZW1 : Hid (Blk 25 W1 w.heap.size LZ) := by rw [hW1]; exact (ZV.out.heap (w' := V.drew) rfl).other (by omega)
      have CW1 : Hid (Cv W1) := by unfold Hid; rw [hW1]; exact (CV.out.heap (w' := V.drew) rfl).sets (by have := HC.out.lt; omega)
      have UW1 : Hid (Below w.heap.size w W1) := by unfold Hid; rw [hW1]; exact below_dsets UV.out (by omega) _ _
      rw [← hW1] at cp1
      have SY : Src W1.drew (cutA (some ⟨b, off, none⟩) c 33) 32 (c - 33) (xs.drop 33) := by
        have := (SW1.out.heap (w' := W1.drew) rfl).cut 33 65 (by omega) (Nat.le_refl _)
        rwa [List.take_of_length_le (by rw [HL.out]; omega)] at this
      have cp2 := copyS W1.drew 3 (w.heap.size + 1) 32 32 25 (bV (cX xs)) (bV z32) [.bool false] (cutA (some ⟨b, off, none⟩) c 33) 32 (c - 33) 32 32 (xs.drop 33) (PW1.out.heap (w' := W1.drew) rfl) (by rw [bV_len, HLX.out]) SY rfl rfl (by omega)
      obtain ⟨W2, hW2⟩ : ∃ W2, W2 = W1.drew.setCells (w.heap.size + 1) 32 (((xs.drop 33).take 32).map (Value.int .u8)) := ⟨_, rfl⟩
      rw [← hW2] at cp2
      have PW2 : Hid (Blk 25 W2 (w.heap.size + 1) (pL (cX xs) (cY xs) false)) := by
        rw [hW2, show (xs.drop 33).take 32 = cY xs from List.take_of_length_le (by simp [HL.out])]
        exact Blk.mid (bV (cX xs)) (bV z32) [.bool false] (bV (cY xs)) 32 W1.drew (PW1.out.heap (w' := W1.drew) rfl) (by rw [bV_len, HLX.out]) (by rw [bV_len, bV_len, HLY.out]; rfl)
      have ZW2 : Hid (Blk 25 W2 w.heap.size LZ) := by rw [hW2]; exact (ZW1.out.heap (w' := W1.drew) rfl).other (by omega)
      have CW2 : Hid (Cv W2) := by unfold Hid; rw [hW2]; exact (CW1.out.heap (w' := W1.drew) rfl).sets (by have := HC.out.lt; omega)
      have UW2 : Hid (Below w.heap.size w W2) := by unfold Hid; rw [hW2]; exact below_dsets UW1.out (by omega) _ _
      have ldp := (pnt_ld HLX.out HLY.out PW2.out).1
      have HLD : Hid (∀ W, Blk 25 W (w.heap.size + 1) (pL (cX xs) (cY xs) false) → (ldA 25 (.pointer (some ⟨w.heap.size + 1, 0, none⟩))).run Tryd.prog W = .ok (.agg (pL (cX xs) (cY xs) false).toArray) W) := fun W h => (pnt_ld HLX.out HLY.out h).1
      have hone2 := pL_one (cX xs) (cY xs) false
      have HST : Hid (∀ W, Blk 25 W w.heap.size LZ → (stA 25 (.pointer (some ⟨w.heap.size, 0, none⟩)) (.agg (pL (cX xs) (cY xs) false).toArray)).run Tryd.prog W = .ok () (W.setCells w.heap.size 0 (pL (cX xs) (cY xs) false))) := fun W h => stPt (f := false) HLX.out HLY.out h HPL.out
      have HSZ : Hid (∀ W, Blk 25 W w.heap.size LZ → (stA 25 (.pointer (some ⟨w.heap.size, 0, none⟩)) (.agg LZ.toArray)).run Tryd.prog W = .ok () (W.setCells w.heap.size 0 LZ)) := fun W h => by rw [HPZ.out] at h ⊢; exact stPt (f := false) z32_len z32_len h rfl
      have HN1 := hide (dec_on hok.out)
      have HN0 := hide (dec_off hok.out)
      obtain ⟨L, hL⟩ : ∃ L, pL (cX xs) (cY xs) false = L := ⟨_, rfl⟩
      have HLe := hide hL
      rw [hL] at ldp HLD hone2 HST HON PW2
      obtain ⟨on, hon⟩ : ∃ on, onP (cX xs) (cY xs) false = on := ⟨_, rfl⟩
      have HONe := hide hon
      rw [hon] at HON
      rw [hV] at cp1
      obtain ⟨a1, ha1⟩ : ∃ a1, cutA (some ⟨b, off, none⟩) c 1 = a1 := ⟨_, rfl⟩
      obtain ⟨a2, ha2⟩ : ∃ a2, cutA (some ⟨b, off, none⟩) c 33 = a2 := ⟨_, rfl⟩
      obtain ⟨d1, hd1⟩ : ∃ d1, c - 1 = d1 := ⟨_, rfl⟩
      obtain ⟨d2, hd2⟩ : ∃ d2, c - 33 = d2 := ⟨_, rfl⟩
      simp only [ha1, ha2, hd1, hd2] at s1 s2 cp1 cp2
      clear hV ZV PV SV CV UV hx1 SX PW1 SW1 ZW1 CW1 UW1 SY hW1 hW2 gs1 hL hon ha1 ha2 hd1 hd2 h4 Z0 U0
      cases on with
      | true =>
        go_enter Tryd.func26, Tryd.ntmps26
        go_wp2
        go_region
        go_wp2
        go_region
        go_wp2_with (go_at_call 23; refine (HON.out _ CW2.out).mono ?_; rintro e w3 ⟨rfl, LB⟩; have Z3 := hide (ZW2.out.below LB); have P3 := hide (PW2.out.below LB); have U3 := hide (below_then UW2.out LB); clear LB; have ld3 := HLD.out _ P3.out; have st3 := HST.out _ Z3.out)
        obtain ⟨e1, e2, e3⟩ := HN1.out HONe.out
        exact rd_ret (p := 2) (q := 3) (by kernel_rfl) rfl (by rw [e1]; rfl) Tryd.underlying25 rfl info_pnt Z3.out HPL.out (by rw [e2, e3]; exact HLe.out.symm) U3.out (Nat.le_refl _)
      | false =>
        go_enter Tryd.func26, Tryd.ntmps26
        go_wp2
        go_region
        go_wp2
        go_region
        go_wp2_with (go_at_call 23; refine (HON.out _ CW2.out).mono ?_; rintro e w3 ⟨rfl, LB⟩; have Z3 := hide (ZW2.out.below LB); have U3 := hide (below_then UW2.out LB); clear LB; have st3 := HSZ.out _ Z3.out)
        obtain ⟨e1, e2, e3⟩ := HN0.out HONe.out
        exact rd_ret (p := 2) (q := 3) (by kernel_rfl) rfl (by rw [e1]; rfl) Tryd.underlying25 rfl info_pnt Z3.out HPL.out (by rw [e2, e3]; exact HPZ.out) U3.out (Nat.le_refl _)
    · have HN := hide (dec_form (xs := xs) (fun h => h4 h.2))
      obtain ⟨z, hz⟩ : ∃ z, xs.getD 0 0 = z := ⟨_, rfl⟩
      rw [hz] at c0 h4
      clear hz
      go_enter Tryd.func26, Tryd.ntmps26
      go_wp2
      obtain ⟨e1, e2, e3⟩ := HN.out
      exact rd_ret (p := 2) (q := 3) (by kernel_rfl) rfl (by rw [e1]; rfl) Tryd.underlying25 rfl info_pnt Z0.out HPL.out (by rw [e2, e3]; exact HPZ.out) U0.out (Nat.le_refl _)
  · have HN := hide (dec_form (xs := xs) (fun h => h65 (HL.out ▸ h.1)))
    have hni : ¬ (n : Int) = 65 := by omega
    clear h65
    go_enter Tryd.func26, Tryd.ntmps26
    go_wp2
    obtain ⟨e1, e2, e3⟩ := HN.out
    exact rd_ret (p := 2) (q := 3) (by kernel_rfl) rfl (by rw [e1]; rfl) Tryd.underlying25 rfl info_pnt Z0.out HPL.out (by rw [e2, e3]; exact HPZ.out) U0.out (Nat.le_refl _)

end Go.Proofs.YtcijjmncilciiaaDoor

namespace Go.Proofs.YtcijjmncilciiaaDoor
open Go.RowKit Go.IntWalk
attribute [local go_sem ↓] ld_num st_num ld_pln st_pln ld_ops st_ops ld_pnt st_pnt ld_dig st_dig ld_tri st_tri eq_num ne_num eq_pnt ne_pnt bd_pnt ld_F st_F eq_F ld_a32 st_a32 ld_rpt st_rpt eq_rpt bd_rpt eq_dgs

/-- The first k of 32 bytes, zeros behind them. -/
def dcL (X : List Int) (k : Nat) : List Int := X.take k ++ List.replicate (32 - k) 0
theorem dcL_len {X : List Int} (hX : X.length = 32) (k : Nat) (hk : k ≤ 32) : (dcL X k).length = 32 := by simp [dcL, hX]; omega
theorem dcL_set {X : List Int} (hX : X.length = 32) (k : Nat) (hk : k < 32) : (dcL X k).set k (X.getD k 0) = dcL X (k + 1) := by
  unfold dcL
  have hl : (X.take k).length = k := by simp [hX]; omega
  rw [List.set_append_right _ _ (by omega), hl, Nat.sub_self, show 32 - k = (32 - (k + 1)) + 1 by omega, List.replicate_succ, List.set_cons_zero, List.take_succ_eq_append_getElem (by omega), List.append_assoc]
  simp [List.getD, hX, hk]
theorem dcL_0 (X : List Int) : dcL X 0 = z32 := rfl
theorem dcL_32 {X : List Int} (hX : X.length = 32) : dcL X 32 = X := by simp [dcL, List.take_of_length_le (Nat.le_of_eq hX)]
theorem pL_setX {X Y : List Int} (hX : X.length = 32) (f : Bool) (k : Nat) (hk : k < 32) (u : Int) : (pL X Y f).set k (.int .u8 u) = pL (X.set k u) Y f := by
  unfold pL
  rw [List.append_assoc, List.set_append_left _ _ (by simp [hX, hk]), List.map_set, List.append_assoc]
theorem pL_setY {X Y : List Int} (hX : X.length = 32) (hY : Y.length = 32) (f : Bool) (k : Nat) (hk : k < 32) (u : Int) : (pL X Y f).set (32 + k) (.int .u8 u) = pL X (Y.set k u) f := by
  unfold pL
  rw [List.append_assoc, List.set_append_right _ _ (by simp [hX]), List.length_map, hX, Nat.add_sub_cancel_left, List.set_append_left _ _ (by simp [hY, hk]), List.map_set, List.append_assoc]
theorem ron_any (X Y : List Int) (hX : X.length = 32) (hY : Y.length = 32) (dX : Dg 256 X) (dY : Dg 256 Y) (f : Bool) (w : World) :
    Calls Tryd.prog 11 #[.agg (pL X Y f).toArray] w fun e w' => e = .returned (.bool (onP X Y f)) ∧ Below w.heap.size w w' := by
  cases f
  · exact ron_near X Y hX hY dX dY w
  · exact ron_far X Y hX hY w

end Go.Proofs.YtcijjmncilciiaaDoor

namespace Go.Proofs.YtcijjmncilciiaaDoor
open Go.RowKit Go.IntWalk
attribute [local go_sem ↓] ld_num st_num ld_pln st_pln ld_ops st_ops ld_pnt st_pnt ld_dig st_dig ld_tri st_tri eq_num ne_num eq_pnt ne_pnt bd_pnt ld_F st_F eq_F ld_a32 st_a32 ld_rpt st_rpt eq_rpt bd_rpt eq_dgs bd_f8

theorem bd_the' (x0 x1 x2 x3 x4 x5 x6 x7 x8 x9 x10 x11 x12 x13 x14 x15 x16 x17 x18 x19 x20 x21 x22 x23 x24 x25 x26 x27 x28 x29 x30 x31 y0 y1 y2 y3 y4 y5 y6 y7 y8 y9 y10 y11 y12 y13 y14 y15 y16 y17 y18 y19 y20 y21 y22 y23 y24 y25 y26 y27 y28 y29 y30 y31 : Int) (f : Bool) (w : World) : (bdA 33 #[(0, .agg (bV [x0, x1, x2, x3, x4, x5, x6, x7, x8, x9, x10, x11, x12, x13, x14, x15, x16, x17, x18, x19, x20, x21, x22, x23, x24, x25, x26, x27, x28, x29, x30, x31]).toArray), (1, .agg (bV [y0, y1, y2, y3, y4, y5, y6, y7, y8, y9, y10, y11, y12, y13, y14, y15, y16, y17, y18, y19, y20, y21, y22, y23, y24, y25, y26, y27, y28, y29, y30, y31]).toArray), (2, .bool f)]).run Tryd.prog w = .ok (.agg (pL [x0, x1, x2, x3, x4, x5, x6, x7, x8, x9, x10, x11, x12, x13, x14, x15, x16, x17, x18, x19, x20, x21, x22, x23, x24, x25, x26, x27, x28, x29, x30, x31] [y0, y1, y2, y3, y4, y5, y6, y7, y8, y9, y10, y11, y12, y13, y14, y15, y16, y17, y18, y19, y20, y21, y22, y23, y24, y25, y26, y27, y28, y29, y30, y31] f).toArray) w := by kernel_rfl

theorem bd_the (X Y : List Int) (f : Bool) (hX : X.length = 32) (hY : Y.length = 32) (w : World) : (bdA 33 #[(0, .agg (bV X).toArray), (1, .agg (bV Y).toArray), (2, .bool f)]).run Tryd.prog w = .ok (.agg (pL X Y f).toArray) w := by
  match X, hX with
  | [x0, x1, x2, x3, x4, x5, x6, x7, x8, x9, x10, x11, x12, x13, x14, x15, x16, x17, x18, x19, x20, x21, x22, x23, x24, x25, x26, x27, x28, x29, x30, x31], _ =>
    match Y, hY with
    | [y0, y1, y2, y3, y4, y5, y6, y7, y8, y9, y10, y11, y12, y13, y14, y15, y16, y17, y18, y19, y20, y21, y22, y23, y24, y25, y26, y27, y28, y29, y30, y31], _ => exact bd_the' x0 x1 x2 x3 x4 x5 x6 x7 x8 x9 x10 x11 x12 x13 x14 x15 x16 x17 x18 x19 x20 x21 x22 x23 x24 x25 x26 x27 x28 x29 x30 x31 y0 y1 y2 y3 y4 y5 y6 y7 y8 y9 y10 y11 y12 y13 y14 y15 y16 y17 y18 y19 y20 y21 y22 y23 y24 y25 y26 y27 y28 y29 y30 y31 f w

set_option maxRecDepth 100000 in
set_option maxHeartbeats 1000000 in
theorem theirs_any (X Y : List Int) (f : Bool) (hX : X.length = 32) (hY : Y.length = 32) (w : World) :
    Calls Tryd.prog 12 #[.agg (pL X Y f).toArray] w fun e w' => e = .returned (.agg (pL X Y f).toArray) ∧ Below w.heap.size w w' := by
  have K0 := hide ((Blk.new (T := 25) w (pL X Y f) _ _ rfl rfl).alloc (.cells Tryd.zeroCells33 33))
  have Z0 := hide (Blk.new (T := 33) (w.alloc (.cells (pL X Y f).toArray 25)) PZ Tryd.zeroCells33 (w.heap.size + 1) zc_rpt (by simp))
  have U0 := hide (below2 w (.cells (pL X Y f).toArray 25) (.cells Tryd.zeroCells33 33))
  obtain ⟨_, l1, l2, _⟩ := pnt_ld hX hY K0.out
  have c0 : (pL X Y f)[64]? = some (.bool f) := by simp [pL, hX, hY]
  have hbd := bd_the X Y f hX hY
  have hst := stRp (f := f) hX hY Z0.out rfl
  have hlen := pL_len hX hY f
  have HB := hide (blk_all (vs := pL X Y f) Z0.out (by rw [hlen]; rfl))
  have hone := pL_one X Y f
  have HLn := hide hlen
  generalize pL X Y f = L at *
  clear hX hY hlen
  go_enter Tryd.func12, Tryd.ntmps12
  go_wp2
  refine bodyPost_ret (v := .agg L.toArray) ?_ rfl ⟨rfl, below_sets U0.out (by omega) U0.out.size _ _⟩
  exact res_one (T := 33) (p := 2) (ty := 33) (g := w.heap.size + 1) (X := L) (by kernel_rfl) _ _ rfl Tryd.underlying33 rfl (by rw [HLn.out]; exact info_rpt) HB.out

/-- The point across. -/
def negY (Y : List Int) (f : Bool) : List Int := if f = true then Y else be (ps 0 (dn Y))
theorem negY_len {Y : List Int} (hY : Y.length = 32) (f : Bool) : (negY Y f).length = 32 := by
  unfold negY
  split
  · exact hY
  · exact be_len _

end Go.Proofs.YtcijjmncilciiaaDoor
