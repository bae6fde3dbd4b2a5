/-
  'append' of bytes to a row of the call's own, as one step of a region that draws its order.
  Bytes, cut at their head or their end; what the append laws are told of the row that they hand on. No program.
  curve.Encode and the document's Encode.
-/
import Derived.Test.YtcijjmncilciiaaDoorZCvNamToBts
import Derived.Deep.RegionHeld3
import Derived.WalkSpells
import Derived.Test.YtcijjmncilciiaaDoorZCvGatToMore
import Derived.Test.YtcijjmncilciiaaDoorZCvDecToCvThe
import Derived.Deep.DeepCutAuto
namespace Go.Proofs.YtcijjmncilciiaaDoor
open Go.RowKit

theorem run_appB (w : World) (ty : TypeId) (base : Nat) (v : Value) (xs : List Int) (hown : OwnB w base v xs)
    (ao : Option Addr) (m c : Nat) (ys : List Int) (hsrc : Src w ao m c ys) (hb : xs.length + m ≤ 140737488355328) (hbase : base ≤ w.heap.size) :
    ∃ v' w', (Builtin.append_ #[47, 47] ty #[v, .slice ao m c]).run Tryd.prog w = .ok v' w' ∧ OwnB w' base v' (xs ++ ys) ∧ w.grownBy w' v.ownBlock ∧ (v ≠ .slice none 0 0 → v' ≠ .slice none 0 0) := by
  obtain ⟨i0, hi, hz0, hz1, hz2⟩ := info_parts Tryd.infoB
  obtain ⟨hlen, hcap, hmax, hnil, hrd, hbyt⟩ := hsrc
  cases ao with
  | none =>
    obtain ⟨rfl, rfl⟩ := hnil rfl
    obtain rfl : ys = [] := List.eq_nil_of_length_eq_zero hlen
    exact ⟨v, w, run_append_owned_none (P := Tryd.prog) w base 47 ty 5 i0 1 Tryd.underlying47 hi v _ _ hown, by simpa using hown, ⟨rfl, rfl, rfl, Nat.le_refl _, fun _ _ _ => rfl⟩, fun h => h⟩
  | some ad =>
    obtain ⟨v', w', h1, h2, h3, h4⟩ := run_append_own (P := Tryd.prog) w base 47 ty 5 i0 (.int .u8 0) 1 1 Tryd.underlying47 hi hz0 hz1 hz2 rfl (by decide) v _ _ hown ad m c (ys.map (Value.int .u8)) (by simpa using hlen)
      (by
        intro j u hj
        have hjl : j < ys.length := by
          rcases Nat.lt_or_ge j ys.length with h | h
          · exact h
          · simp [List.getElem?_eq_none (show (ys.map (Value.int .u8)).length ≤ j by simpa using h)] at hj
        obtain ⟨b, off, he, hc⟩ := hrd (by intro h; simp [h] at hjl)
        cases he
        rw [add_none, hc j hjl]
        simp [List.getElem?_eq_getElem hjl] at hj
        subst hj
        simp [List.getD, List.getElem?_eq_getElem hjl])
      (ints_one _ _) (by unfold maxLen; omega) (by omega) hbase
    refine ⟨v', w', h1, ?_, h3, fun hv hv' => hv (h4.1 hv').1⟩
    unfold OwnB
    have e1 : (xs ++ ys).length = xs.length + m := by simp [hlen]
    rw [e1]
    simpa using h2

theorem run_appN (w : World) (ty : TypeId) (base : Nat) (v : Value) (xs : List Int) (hown : OwnB w base v xs)
    (ao : Option Addr) (m c : Nat) (ys : List Int) (hsrc : Src w ao m c ys)
    (t : Nat) (ht : (xs ++ ys).length = t) (hne : v ≠ .slice none 0 0 ∨ ys ≠ []) (hb : t ≤ 140737488355328) (hbase : base ≤ w.heap.size) :
    ∃ g c' w', (Builtin.append_ #[47, 47] ty #[v, .slice ao m c]).run Tryd.prog w = .ok (.slice (some ⟨g, 0, none⟩) t c') w' ∧ OwnB w' base (.slice (some ⟨g, 0, none⟩) t c') (xs ++ ys) ∧
      base ≤ g ∧ g < w'.heap.size ∧ t ≤ c' ∧ c' ≤ maxLen ∧ w.grownBy w' v.ownBlock := by
  have ht' : xs.length + m = t := by rw [← ht, List.length_append, hsrc.hlen]
  obtain ⟨v', w', h1, h2, h3, h4⟩ := run_appB w ty base v xs hown ao m c ys hsrc (by omega) hbase
  rcases h2.split with ⟨hv, hx'⟩ | ⟨g, c', hv, hb', hl', hc', hm'⟩
  · rcases hne with hne | hne
    · exact absurd hv (h4 hne)
    · simp at hx'; exact absurd hx'.2 hne
  · rw [ht] at hv hc'
    subst hv
    exact ⟨g, c', w', h1, h2, hb', hl', hc', hm', h3⟩

/-- The same where what comes of it may be nil. -/
theorem step_appS {ops : Array Oper} {o : Oper} {a : Act} {K : Act → World → Prop} {Q : Exit → Act → World → Prop} {E : Prop} (w : World) (hgd : o.guard = none) (s x : Operand)
    (ho : o.op = .call { callee := .builtin .append, args := #[s, x], argTypes := #[47, 47] })
    (base : Nat) (v : Value) (xs : List Int) (hs : a.eval s = v) (hown : OwnB w base v xs)
    (ao : Option Addr) (m c : Nat) (ys : List Int) (hx : a.eval x = .slice ao m c) (hsrc : Src w ao m c ys)
    (t : Nat) (ht : (xs ++ ys).length = t) (hb : t ≤ 140737488355328) (hbase : base ≤ w.heap.size)
    (hK : ∀ ad c' w', OwnB w' base (.slice ad t c') (xs ++ ys) → w.grownBy w' v.ownBlock → K (a.put o.dst (.slice ad t c')) w') :
    if Region.wanted o (yielded ops a.tmps) = true then Oper.wp Tryd.prog o a w K Q else E := by
  have hw : Region.wanted o (yielded ops a.tmps) = true := by simp [Region.wanted, hgd]
  rw [if_pos hw]
  have ht' : xs.length + m = t := by rw [← ht, List.length_append, hsrc.hlen]
  obtain ⟨v', w', hrun, h2, h3, h4⟩ := run_appB w o.type base v xs hown ao m c ys hsrc (by omega) hbase
  have hshape : ∃ ad c', v' = .slice ad t c' := by
    rcases h2.split with ⟨hv, hx'⟩ | ⟨g, c', hv, _⟩
    · rw [hx'] at ht
      simp at ht
      exact ⟨none, 0, by rw [hv, ← ht]⟩
    · exact ⟨some ⟨g, 0, none⟩, c', by rw [hv, ht]⟩
  obtain ⟨ad, c', rfl⟩ := hshape
  unfold Oper.wp
  simp [execOp, ho, resolve, invoke, builtin, hs, hx, hrun, Result.andThen]
  exact hK ad c' w' h2 h3

theorem step_appN {ops : Array Oper} {o : Oper} {a : Act} {K : Act → World → Prop} {Q : Exit → Act → World → Prop} {E : Prop} (w : World) (hgd : o.guard = none) (s x : Operand)
    (ho : o.op = .call { callee := .builtin .append, args := #[s, x], argTypes := #[47, 47] })
    (base : Nat) (v : Value) (xs : List Int) (hs : a.eval s = v) (hown : OwnB w base v xs)
    (ao : Option Addr) (m c : Nat) (ys : List Int) (hx : a.eval x = .slice ao m c) (hsrc : Src w ao m c ys)
    (t : Nat) (ht : (xs ++ ys).length = t) (hne : v ≠ .slice none 0 0 ∨ ys ≠ []) (hb : t ≤ 140737488355328) (hbase : base ≤ w.heap.size)
    (hK : ∀ g c' w', OwnB w' base (.slice (some ⟨g, 0, none⟩) t c') (xs ++ ys) → base ≤ g → g < w'.heap.size → t ≤ c' → c' ≤ maxLen → w.grownBy w' v.ownBlock → K (a.put o.dst (.slice (some ⟨g, 0, none⟩) t c')) w') :
    if Region.wanted o (yielded ops a.tmps) = true then Oper.wp Tryd.prog o a w K Q else E := by
  have hw : Region.wanted o (yielded ops a.tmps) = true := by simp [Region.wanted, hgd]
  rw [if_pos hw]
  obtain ⟨g, c', w', hrun, h1, h2, h3, h4, h5, h6⟩ := run_appN w o.type base v xs hown ao m c ys hsrc t ht hne hb hbase
  unfold Oper.wp
  simp [execOp, ho, resolve, invoke, builtin, hs, hx, hrun, Result.andThen]
  exact hK g c' w' h1 h2 h3 h4 h5 h6

end Go.Proofs.YtcijjmncilciiaaDoor

namespace Go.Proofs.YtcijjmncilciiaaDoor
open Go.RowKit Go.IntWalk

theorem cutA_zero (ao : Option Addr) (c : Nat) : cutA ao c 0 = ao := by
  unfold cutA
  split
  · rfl
  · cases ao with
    | none => rfl
    | some a => obtain ⟨b, o, s⟩ := a; cases s <;> simp [Addr.add]

theorem Src.head {w : World} {ao : Option Addr} {n c : Nat} {xs : List Int} (hs : Src w ao n c xs) (h : Nat) (hh : h ≤ n) : Src w ao h c (xs.take h) := by
  have := hs.cut 0 h (Nat.zero_le _) hh
  simpa [cutA_zero] using this

theorem Src.tail {w : World} {ao : Option Addr} {n c : Nat} {xs : List Int} (hs : Src w ao n c xs) (h : Nat) (hh : h ≤ n) : Src w (cutA ao c h) (n - h) (c - h) (xs.drop h) := by
  have := hs.cut h n hh (Nat.le_refl _)
  rwa [List.take_of_length_le (by rw [hs.hlen]; exact Nat.le_refl _)] at this

theorem own_ge {a n c b : Nat} (h : b ≤ a) : ∀ k, (Value.slice (some ⟨a, 0, none⟩) n c).ownBlock = some k → b ≤ k := by intro k hk; cases hk; exact h
theorem some_ge {a b : Nat} (h : b ≤ a) : ∀ k, some a = some k → b ≤ k := by intro k hk; cases hk; exact h

end Go.Proofs.YtcijjmncilciiaaDoor

namespace Go.Proofs.YtcijjmncilciiaaDoor
open Go.RowKit Go.IntWalk
attribute [local go_sem ↓] ld_num st_num ld_pln st_pln ld_ops st_ops ld_pnt st_pnt ld_dig st_dig ld_tri st_tri eq_num ne_num eq_pnt ne_pnt bd_pnt ld_F st_F eq_F ld_a32 st_a32 ld_rpt st_rpt eq_rpt bd_rpt eq_dgs bd_f8

/-- A point's bytes, and the error beside them. -/
def encB (X Y : List Int) (f : Bool) : List Int := if (onP X Y f && !f) = true then 4 :: (X ++ Y) else []
def encE (X Y : List Int) (f : Bool) : Int := if (onP X Y f && !f) = true then 0 else 100
theorem encB_bd {X Y : List Int} (f : Bool) (dX : Dg 256 X) (dY : Dg 256 Y) : ∀ x ∈ encB X Y f, 0 ≤ x ∧ x < 256 := by
  unfold encB
  split
  · intro x hx
    simp only [List.mem_cons, List.mem_append] at hx
    rcases hx with rfl | hx | hx
    · omega
    · exact dX x hx
    · exact dY x hx
  · intro x hx
    simp at hx
theorem encB_len {X Y : List Int} (f : Bool) (hX : X.length = 32) (hY : Y.length = 32) : (encB X Y f).length ≤ 65 := by
  unfold encB
  split
  · simp [hX, hY]
  · simp

theorem src_x {T : TypeId} {W : World} {g : Nat} {X Y : List Int} {f : Bool} (hX : X.length = 32) (dX : Dg 256 X) (h : Blk T W g (pL X Y f)) : Src W (some ⟨g, 0, none⟩) 32 32 X := by
  refine ⟨hX, Nat.le_refl _, by decide, by simp, fun _ => ⟨g, 0, rfl, fun i hi => ?_⟩, dX⟩
  rw [h.cell, Nat.zero_add]
  simp [pL, List.getElem?_append_left, hi, List.getD]
theorem src_y {T : TypeId} {W : World} {g : Nat} {X Y : List Int} {f : Bool} (hX : X.length = 32) (hY : Y.length = 32) (dY : Dg 256 Y) (h : Blk T W g (pL X Y f)) : Src W (some ⟨g, 32, none⟩) 32 32 Y := by
  refine ⟨hY, Nat.le_refl _, by decide, by simp, fun _ => ⟨g, 32, rfl, fun i hi => ?_⟩, dY⟩
  rw [h.cell]
  unfold pL
  rw [List.append_assoc, List.getElem?_append_right (by simp [hX]), List.length_map, hX, Nat.add_sub_cancel_left, List.getElem?_append_left (by simpa using hi)]
  simp [hi, List.getD]

theorem make65 (w : World) (base : Nat) (hb : base ≤ w.heap.size) : ∃ w', (Instr.makeSlice 47 (.int .i64 0) (.int .i64 65)).run Tryd.prog w = .ok (.slice (some ⟨w.heap.size, 0, none⟩) 0 65) w' ∧ OwnB w' base (.slice (some ⟨w.heap.size, 0, none⟩) 0 65) [] ∧ w.grownBy w' none := by
  obtain ⟨i0, hi, hz0, hz1, hz2⟩ := info_parts Tryd.infoB
  exact run_make_own (P := Tryd.prog) w base 47 5 i0 (.int .u8 0) 1 Tryd.underlying47 hi hz0 hz1 .i64 .i64 65 (by rw [hz2]; decide) (by decide) hb

/-- What Encode answers. -/
def Ren (X Y : List Int) (f : Bool) (w : World) (e : Ending) (w' : World) : Prop := ∃ a n c, e = .returned (.tuple #[.slice a n c, .int .i64 (encE X Y f)]) ∧ OwnB w' w.heap.size (.slice a n c) (encB X Y f) ∧ Below w.heap.size w w'

theorem Tryd.lenA32 : Tryd.prog.arrayLen 22 = 32 := by kernel_rfl
theorem Tryd.elemA32 : Tryd.prog.elem 22 = 5 := by kernel_rfl
theorem Tryd.arrA32 : Tryd.prog.underlying 22 = some (.array (Tryd.prog.arrayLen 22) (Tryd.prog.elem 22)) := by rw [Tryd.lenA32, Tryd.elemA32]; exact Tryd.underlying22
theorem Tryd.sizeA32 (w : World) : (sizeOf (Tryd.prog.elem 22)).run Tryd.prog w = .ok 1 w := by rw [Tryd.elemA32]; kernel_rfl
theorem slice_all32 (W : World) (b o : Nat) : (Instr.sliceAt 22 (.pointer (some ⟨b, o, none⟩)) none none none).run Tryd.prog W = .ok (.slice (some ⟨b, o, none⟩) 32 32) W := by
  rw [run_sliceAt_array_all W _ _ Tryd.arrA32, Tryd.sizeA32, Tryd.lenA32]
  simp [slicedAt, Result.andThen, addNone]

set_option maxRecDepth 100000 in
set_option maxHeartbeats 2000000 in
theorem encode_any (X Y : List Int) (f : Bool) (hX : X.length = 32) (hY : Y.length = 32) (dX : Dg 256 X) (dY : Dg 256 Y) (w : World) (hC : Cv w) :
    Calls Tryd.prog 25 #[.agg (pL X Y f).toArray] w (Ren X Y f w) := by
  have HON : Hid (∀ W, Cv W → Calls Tryd.prog 23 #[.agg (pL X Y f).toArray] W fun e w' => e = .returned (.bool (onP X Y f)) ∧ Below W.heap.size W w') := fun W hW => on_any X Y f hX hY dX dY W hW
  have HC := hide (hC.alloc (.cells (pL X Y f).toArray 25))
  clear hC
  have HXL := hide hX
  have HYL := hide hY
  have HDX := hide dX
  have HDY := hide dY
  have K0 := hide (Blk.new (T := 25) w (pL X Y f) _ _ rfl rfl)
  have U0 := hide (below1 w (.cells (pL X Y f).toArray 25))
  have HLD : Hid (∀ W, Blk 25 W w.heap.size (pL X Y f) → (ldA 25 (.pointer (some ⟨w.heap.size, 0, none⟩))).run Tryd.prog W = .ok (.agg (pL X Y f).toArray) W) := fun W h => (pnt_ld hX hY h).1
  have c64 : (w.alloc (.cells (pL X Y f).toArray 25)).cell? ⟨w.heap.size, 64, none⟩ = some (.bool f) := by rw [K0.out.cell]; simp [pL, hX, hY]
  have ld0 := HLD.out _ K0.out
  have HCK : Hid (∀ W, Blk 25 W w.heap.size (pL X Y f) → W.cell? ⟨w.heap.size, 64, none⟩ = some (.bool f)) := by
    intro W h
    rw [h.cell]
    simp [pL, hX, hY]
  have hone := pL_one X Y f
  have HSX : Hid (∀ W, Blk 25 W w.heap.size (pL X Y f) → Src W (some ⟨w.heap.size, 0, none⟩) 32 32 X) := fun W h => src_x hX dX h
  have HSY : Hid (∀ W, Blk 25 W w.heap.size (pL X Y f) → Src W (some ⟨w.heap.size, 32, none⟩) 32 32 Y) := fun W h => src_y hX hY dY h
  have hsl := slice_allD
  have hsl2 := slice_all32
  obtain ⟨on, hon⟩ : ∃ on, onP X Y f = on := ⟨_, rfl⟩
  unfold Ren encE encB
  rw [hon] at HON ⊢
  generalize pL X Y f = L at *
  clear hX hY dX dY hon
  cases f with
  | true =>
    rw [if_neg (by simp)]
    rw [if_neg (by simp)]
    go_enter Tryd.func25, Tryd.ntmps25
    go_wp2
    go_ret2
    exact ⟨none, 0, 0, rfl, OwnB.nil _ _, U0.out⟩
  | false =>
    cases on with
    | false =>
      rw [if_neg (by simp)]
      rw [if_neg (by simp)]
      go_enter Tryd.func25, Tryd.ntmps25
      go_wp2_with (go_at_call 23; refine (HON.out _ HC.out).mono ?_; rintro e w1 ⟨rfl, LB⟩; have U1 := hide (below_then U0.out LB); clear LB)
      go_ret2
      exact ⟨none, 0, 0, rfl, OwnB.nil _ _, U1.out⟩
    | true =>
      rw [if_pos (by rfl), if_pos (by rfl)]
      go_enter Tryd.func25, Tryd.ntmps25
      go_wp2_with (first | (go_at_call 23; refine (HON.out _ HC.out).mono ?_; rintro e w1 ⟨rfl, LB⟩; have U1 := hide (below_then U0.out LB); have K1 := hide (K0.out.below LB); clear LB; obtain ⟨wm, hmk, hom, hgm⟩ := make65 w1 w1.heap.size (Nat.le_refl _); have OM := hide hom; have GM := hide hgm; clear hom hgm) | (at_builtin; refine wpList_appN _ rfl (.tmp 13) (.tmp 14) rfl w1.heap.size (.slice (some ⟨w1.heap.size, 0, none⟩) 0 65) [] rfl (OM.out.alloc _) (some ⟨wm.heap.size, 0, none⟩) 1 1 [4] rfl (Src.lit [4] _ 1 rfl rfl (by simp) (by decide)) 1 rfl (.inl (by simp)) (by decide) (by have := GM.out.size; simp; omega) ?_; intro g2 c2 w2 ho2 hb2 hl2 hc2 hm2 hg2; have O2 := hide ho2; have B2 := hide (((below_of_grown GM.out).alloc GM.out.size _).grown hg2 (by have := GM.out.size; simp; omega) (by intro k hk; cases hk; exact Nat.le_refl _)); have K2 := hide (K1.out.below B2.out); have S2 := hide (HSX.out _ K2.out); clear ho2 hg2 hmk) | (at_builtin; refine wpList_appN _ rfl (.tmp 16) (.tmp 18) rfl w1.heap.size (.slice (some ⟨g2, 0, none⟩) 1 c2) [4] rfl O2.out (some ⟨w.heap.size, 0, none⟩) 32 32 X rfl S2.out 33 (by rw [List.length_append, HXL.out]; rfl) (.inl (by simp)) (by decide) (by have := B2.out.size; omega) ?_; intro g3 c3 w3 ho3 hb3 hl3 hc3 hm3 hg3; have O3 := hide ho3; have B3 := hide (B2.out.grown hg3 B2.out.size (by intro k hk; cases hk; exact hb2)); have K3 := hide (K1.out.below B3.out); have S3 := hide (HSY.out _ K3.out); clear ho3 hg3) | (at_builtin; refine wpList_appN _ rfl (.tmp 20) (.tmp 22) rfl w1.heap.size (.slice (some ⟨g3, 0, none⟩) 33 c3) ([4] ++ X) rfl O3.out (some ⟨w.heap.size, 32, none⟩) 32 32 Y rfl S3.out 65 (by rw [List.length_append, List.length_append, HXL.out, HYL.out]; rfl) (.inl (by simp)) (by decide) (by have := B3.out.size; omega) ?_; intro g4 c4 w4 ho4 hb4 hl4 hc4 hm4 hg4; have O4 := hide ho4; have B4 := hide (B3.out.grown hg4 B3.out.size (by intro k hk; cases hk; exact hb3)); clear ho4 hg4))
      go_ret2
      exact ⟨some ⟨g4, 0, none⟩, 65, c4, rfl, O4.out.rebase U1.out.size, below_then U1.out B4.out⟩

end Go.Proofs.YtcijjmncilciiaaDoor
