/-
  name.Encode: the bytes of a name.
  The memory of a function that ranges over a function: its variables' boxes, the marks for the rounds' deferred calls, the loop's record; how they move. No function of the program.
-/
import Derived.Test.YtcbcdfdicefkoaaGreatDoorXNmEnc
import Derived.Test.YtcbcdfdicefkoaaGreatDoorXBaseToBts
import Derived.RangeFuncNested
import Derived.RangeFuncBound
import Derived.RangeFuncCalls
import Derived.RangeFuncLeaves
import Derived.RangeFuncBox
import Derived.Shelf.Abstract
import Derived.Shelf.RegionOpen
import Derived.WalkKit
import Derived.OwnWalkIn
import Derived.Test.YtcbcdfdicefkoaaGreatDoorXOSizeToRangeP
import Derived.Test.YtcbcdfdicefkoaaGreatDoorXMoreToNextS
namespace Go.Proofs.YtcbcdfdicefkoaaGreatDoor
open Go.RowKit Go.IntWalk Go.Shelf

/-- The bytes of the attributes. -/
def encR (xs : List (Int × ByteArray)) : List Int := (xs.map (fun x => encA x.1 x.2)).flatten
theorem encR_snoc (xs : List (Int × ByteArray)) (k : Nat) (h : k < xs.length) : encR (xs.take (k + 1)) = encR (xs.take k) ++ encA (xs.getD k (0, ByteArray.empty)).1 (xs.getD k (0, ByteArray.empty)).2 := by
  unfold encR
  rw [List.take_succ_eq_append_getElem h, List.map_append, List.flatten_append]
  simp [List.getD, h]
theorem encR_byte (xs : List (Int × ByteArray)) : Byt (encR xs) := by
  intro x hx
  unfold encR at hx
  obtain ⟨l, hl, hx⟩ := List.mem_flatten.1 hx
  obtain ⟨y, _, rfl⟩ := List.mem_map.1 hl
  exact encA_byte _ _ x hx
/-- The bytes of a name, or none; and the error's number. -/
def encNC (xs : List (Int × ByteArray)) : List Int := if nameL xs = true then putB 48 [encR xs] else []
def encNE (xs : List (Int × ByteArray)) : Int := if nameL xs = true then 0 else 120
theorem encNC_byte (xs : List (Int × ByteArray)) : Byt (encNC xs) := by
  unfold encNC
  split
  · exact putB_byte _ _ (fun l hl => by simp at hl; subst hl; exact encR_byte _)
  · intro x hx; cases hx

theorem putB_len (tag : Int) (ls : List (List Int)) : (putB tag ls).length ≤ ls.flatten.length + 5 := by
  unfold putB putS
  split
  · simp
  · split
    · simp
    · rename_i h
      have := lenB_len4 ls.flatten.length
      simp only [List.nil_append, List.length_append, List.length_cons, List.length_nil]
      omega
theorem putB_ne (tag : Int) (ls : List (List Int)) (h1 : isTagB tag = true) (h2 : ls.flatten.length ≤ 16777215) : putB tag ls ≠ [] := by
  unfold putB putS
  rw [if_neg (by simp [h1]), if_neg (by omega)]
  simp
theorem idB_len (t : Int) : (idB t).length ≤ 20 := by
  unfold idB encC encS
  split
  · have h1 := flat_len ([2, 5, 4, t].drop 2)
    have h2 := numB_len (40 * [2, 5, 4, t].getD 0 0 + [2, 5, 4, t].getD 1 0)
    have h3 := sizeS_in (40 * [2, 5, 4, t].getD 0 0 + [2, 5, 4, t].getD 1 0)
    rw [List.length_append]
    simp only [List.drop_succ_cons, List.drop_zero, List.length_cons, List.length_nil] at h1 ⊢
    omega
  · simp
theorem encA_ne (t : Int) (s : ByteArray) (hs : s.size ≤ 1048576) : encA t s ≠ [] := by
  unfold encA
  refine putB_ne _ _ (by decide) ?_
  have h1 := putB_len 48 [putB 6 [idB t], putB (kindL s.data.toList).1 [nums s.data.toList]]
  have h2 := putB_len 6 [idB t]
  have h3 := putB_len (kindL s.data.toList).1 [nums s.data.toList]
  have h4 := idB_len t
  have h5 : (nums s.data.toList).length = s.size := by unfold nums; rw [List.length_map, size_len]
  simp only [List.flatten_cons, List.flatten_nil, List.append_nil, List.length_append] at h1 h2 h3 ⊢
  omega
theorem encA_len (t : Int) (s : ByteArray) (hs : s.size ≤ 1048576) : (encA t s).length ≤ 1100000 := by
  unfold encA
  have h0 := putB_len 49 [putB 48 [putB 6 [idB t], putB (kindL s.data.toList).1 [nums s.data.toList]]]
  have h1 := putB_len 48 [putB 6 [idB t], putB (kindL s.data.toList).1 [nums s.data.toList]]
  have h2 := putB_len 6 [idB t]
  have h3 := putB_len (kindL s.data.toList).1 [nums s.data.toList]
  have h4 := idB_len t
  have h5 : (nums s.data.toList).length = s.size := by unfold nums; rw [List.length_map, size_len]
  simp only [List.flatten_cons, List.flatten_nil, List.append_nil, List.length_append] at h0 h1 h2 h3 ⊢
  omega
theorem encR_len (xs : List (Int × ByteArray)) (k : Nat) (hk : k ≤ xs.length) (hz : ∀ x ∈ xs, x.2.size ≤ 1048576) : (encR (xs.take k)).length ≤ k * 1100000 := by
  induction k with
  | zero => simp [encR]
  | succ k ih =>
    rw [encR_snoc xs k (by omega), List.length_append]
    have h1 := encA_len (xs.getD k (0, ByteArray.empty)).1 (xs.getD k (0, ByteArray.empty)).2 (hz _ (getD_mem (by omega)))
    have h2 := ih (by omega)
    omega
theorem attr_type {t : Int} {l : List UInt8} (h : attrL t l = true) : 0 ≤ t ∧ t ≤ 255 := by
  unfold attrL at h
  split at h
  · omega
  · split at h
    · omega
    · rw [Bool.and_eq_true] at h
      have := of_decide_eq_true h.1
      omega

set_option maxRecDepth 100000 in
set_option maxHeartbeats 2000000 in
theorem encodeN_any (ao : Option Addr) (n cap : Nat) (xs : List (Int × ByteArray)) (w : World) (hA : Ats w ao n cap xs) (hz : ∀ x ∈ xs, x.2.size ≤ 1048576) :
    Calls Tryz.prog 146 #[.slice ao n cap] w fun e w' => ∃ a m c, e = .returned (.tuple #[.slice a m c, .int .i64 (encNE xs)]) ∧ OwnB w' w.heap.size (.slice a m c) (encNC xs) ∧ Below w.heap.size w w' := by
  have hM := hide (mayN_any ao n cap xs w hA (fun x hx => by have := hz x hx; omega))
  have HL := hide hA.hl
  have hc := hA.hcap
  have hm := hA.hmax
  unfold maxLen at hm
  have HA := hide hA
  have HZ := hide hz
  clear hA hz
  cases hN : nameL xs with
  | false =>
    have e1 : encNC xs = [] := by unfold encNC; rw [hN]; rfl
    have e2 : encNE xs = 120 := by unfold encNE; rw [hN]; rfl
    rw [e1, e2]
    rw [hN] at hM
    clear hN e1 e2
    go_enter Tryz.func146, Tryz.ntmps146
    go_wp2_with fail
    refine hM.out.mono ?_
    rintro e w1 ⟨rfl, B1⟩
    go_wp2
    refine bodyPost_ret (v := .tuple #[.slice none 0 0, .int .i64 120]) (by simp [results, Tryz.results146, go_sem]) rfl ⟨none, 0, 0, rfl, OwnB.nil _ _, B1⟩
  | true =>
    have e1 : encNC xs = (putS [] 48 [encR xs]).1 := by unfold encNC; rw [hN]; rfl
    have e2 : encNE xs = 0 := by unfold encNE; rw [hN]; rfl
    have h16 : n ≤ 16 := by
      unfold nameL at hN
      rw [Bool.and_eq_true] at hN
      have := of_decide_eq_true hN.1
      rw [HL.out] at this
      exact this
    have HAT : Hid (∀ x ∈ xs, attrL x.1 x.2.data.toList = true) := by
      unfold nameL at hN
      rw [Bool.and_eq_true] at hN
      exact List.all_eq_true.1 hN.2
    rw [e1, e2]
    rw [hN] at hM
    clear hN e1 e2
    go_enter Tryz.func146, Tryz.ntmps146
    go_wp2_with fail
    refine hM.out.mono ?_
    rintro e w1 ⟨rfl, B1⟩
    have HB := hide B1
    clear B1 hM
    go_wp2
    go_loopw [4, 12] (fun cv v wr => ∃ (aC : Option Addr) (mC cC k : Nat), cv = .slice aC mC cC ∧ v = .int .i64 k ∧ k ≤ n ∧ Hid (OwnB wr w.heap.size (.slice aC mC cC) (encR (xs.take k)) ∧ Below w.heap.size w wr)) (fun _ v _ => n - (intOf v).toNat)
    case atStart => exact ⟨none, 0, 0, 0, rfl, rfl, Nat.zero_le _, OwnB.nil _ _, HB.out⟩
    case round =>
      obtain ⟨aC, mC, cC, k, rfl, rfl, hk, HQ⟩ := hrel
      by_cases hlt : k < n
      · have ltI : (k : Int) < (n : Int) := by omega
        obtain ⟨b, off, rfl, hcl⟩ := (HA.out.below HQ.out.2).hrd (by omega)
        obtain ⟨c0, c1⟩ := hcl k hlt
        have hsn := hide (encR_snoc xs k (by rw [HL.out]; exact hlt))
        have hmem := getD_mem (xs := xs) (i := k) (by rw [HL.out]; exact hlt)
        have hsz := HZ.out _ hmem
        have hty := attr_type (HAT.out _ hmem)
        have hln := hide (encR_len xs k (by rw [HL.out]; exact hk) HZ.out)
        generalize xs.getD k (0, ByteArray.empty) = x at c0 c1 hsn hsz hty
        obtain ⟨t, s⟩ := x
        simp only [] at c0 c1 hsz hty
        clear hcl hmem
        replace hsn : Hid (encR (xs.take (k + 1)) = encR (xs.take k) ++ encA t s) := hsn.out
        have hE := hide (fun W => encoded_any t s hty hsz W)
        have hne := hide (encA_ne t s hsz)
        have hAl := hide (encA_len t s hsz)
        have hAb := hide (encA_byte t s)
        generalize encA t s = E at hE hne hAl hsn hAb
        have B2 := hide (HQ.out.2.alloc HQ.out.2.size (.cells #[.int .i64 t, .string s] 118))
        have O2 := hide (HQ.out.1.alloc (.cells #[.int .i64 t, .string s] 118))
        go_wp2_with fail
        refine (hE.out _).mono ?_
        rintro e w2 ⟨x2, m2, c2, rfl, o2, L2⟩
        have B3 := hide (B2.out.trans (L2.mono B2.out.size))
        have O3 := hide (O2.out.belowA L2)
        have S2 := hide (o2.toSrc hAb.out)
        clear o2 L2 B2 O2 hE
        go_wp2_with (at_builtin; refine wpList_appN _ rfl (.tmp 16) (.tmp 18) rfl w.heap.size (.slice aC mC cC) (encR (xs.take k)) rfl O3.out x2 m2 c2 E rfl S2.out ((encR (xs.take k)).length + E.length) (by rw [List.length_append]) (.inr hne.out) (by have := hln.out; have := hAl.out; omega) B3.out.size ?_; intro g3 c3 w3 ho3 hb3 hl3 hc3 hm3 hg3)
        go_roundw
        case rel => exact ⟨some ⟨g3, 0, none⟩, (encR (xs.take k)).length + E.length, c3, k + 1, rfl, by simp, by omega, by rw [hsn.out]; exact ho3, B3.out.grown hg3 B3.out.size (fun j hj => (O3.out.lt j hj).1)⟩
        case measure => simp [intOf]; omega
      · have ltI : ¬ (k : Int) < (n : Int) := by omega
        obtain rfl : k = n := by omega
        have hx : xs.take k = xs := List.take_of_length_le (by rw [HL.out]; omega)
        rw [hx] at HQ
        have S0 := HQ.out.1.toSrc (encR_byte xs)
        have hb := nbelow wr (.cells #[.slice aC mC cC] 60)
        have r0 : (wr.alloc (.cells #[.slice aC mC cC] 60)).cell? ⟨wr.heap.size, 0, none⟩ = some (.slice aC mC cC) := by simp
        have hP := hide (nput_any 48 _ 1 1 _ _ _ (Parts.one r0 (S0.below hb)) (by decide))
        have B2 := hide (HQ.out.2.trans (hb.mono HQ.out.2.size))
        clear S0 hb r0
        go_wp2_with fail
        refine hP.out.mono ?_
        rintro e w2 ⟨x2, m2, c2, rfl, o2, L2⟩
        go_wp2
        refine bodyPost_ret (v := .tuple #[.slice x2 m2 c2, .int .i64 0]) (by simp [results, Tryz.results146, go_sem]) rfl ⟨x2, m2, c2, rfl, o2.rebase B2.out.size, B2.out.trans (L2.mono B2.out.size)⟩

end Go.Proofs.YtcbcdfdicefkoaaGreatDoor

namespace Go.Proofs.YtcbcdfdicefkoaaGreatDoor
open Go.RowKit Go.Shelf Go.IntWalk

/-- Boxes laid since w, marks laid since w; what lay in w lies as it lay. -/
structure BSt (w : World) (bx : List (Nat × TypeId × Value)) (ds : List Nat) (W : World) : Prop where
  box : ∀ (i : Nat) x, bx[i]? = some x → w.heap.size ≤ x.1 ∧ Boxed W x.1 x.2.1 x.2.2
  nd : ∀ (i j : Nat) x y, bx[i]? = some x → bx[j]? = some y → x.1 = y.1 → i = j
  dfr : ∀ D ∈ ds, w.heap.size ≤ D ∧ W.heap[D]? = some (.deferred (some []))
  bel : Below w.heap.size w W

theorem BSt.start (w : World) : BSt w [] [] w := ⟨fun _ _ h => by simp at h, fun _ _ _ _ h => by simp at h, fun _ h => by simp at h, Below.refl _ _⟩

theorem BSt.get {w W : World} {bx : List (Nat × TypeId × Value)} {ds : List Nat} (h : BSt w bx ds W) (i : Nat) {b : Nat} {t : TypeId} {v : Value} (hi : bx[i]? = some (b, t, v)) : Boxed W b t v := (h.box i _ hi).2

theorem BSt.new {w W : World} {bx : List (Nat × TypeId × Value)} {ds : List Nat} (h : BSt w bx ds W) (t : TypeId) (v : Value) : BSt w (bx ++ [(W.heap.size, t, v)]) ds (W.alloc (.cells #[v] t)) := by
  have hz := h.bel.size
  refine ⟨fun i x hx => ?_, fun i j x y hx hy he => ?_, fun D hD => ?_, h.bel.alloc hz _⟩
  · rw [List.getElem?_append] at hx
    split at hx
    · have := h.box i x hx; exact ⟨this.1, this.2.alloc _⟩
    · have e : x = (W.heap.size, t, v) := by
        cases hd : i - bx.length with
        | zero => rw [hd] at hx; simpa using hx.symm
        | succ k => rw [hd] at hx; simp at hx
      subst e
      exact ⟨hz, Boxed.new W t v⟩
  · have key : ∀ (i : Nat) x, (bx ++ [(W.heap.size, t, v)])[i]? = some x → (i < bx.length ∧ bx[i]? = some x ∧ x.1 < W.heap.size) ∨ (i = bx.length ∧ x.1 = W.heap.size) := by
      intro i x hx
      rw [List.getElem?_append] at hx
      split at hx
      · rename_i hl; exact .inl ⟨hl, hx, (h.box i x hx).2.lt⟩
      · rename_i hl
        cases hd : i - bx.length with
        | zero => rw [hd] at hx; simp at hx; subst hx; exact .inr ⟨by omega, rfl⟩
        | succ k => rw [hd] at hx; simp at hx
    rcases key i x hx with ⟨_, a2, a3⟩ | ⟨a1, a2⟩ <;> rcases key j y hy with ⟨_, b2, b3⟩ | ⟨b1, b2⟩
    · exact h.nd i j x y a2 b2 he
    · omega
    · omega
    · omega
  · have := h.dfr D hD
    exact ⟨this.1, (Below.heap_alloc W _ D (Array.getElem?_eq_some_iff.1 this.2).1).trans this.2⟩

theorem BSt.below {w W W' : World} {bx : List (Nat × TypeId × Value)} {ds : List Nat} (h : BSt w bx ds W) (hb : Below W.heap.size W W') : BSt w bx ds W' :=
  ⟨fun i x hx => ⟨(h.box i x hx).1, (hb.block _ (h.box i x hx).2.lt).trans (h.box i x hx).2⟩, h.nd, fun D hD => ⟨(h.dfr D hD).1, (hb.block _ (Array.getElem?_eq_some_iff.1 (h.dfr D hD).2).1).trans (h.dfr D hD).2⟩, h.bel.trans (hb.mono h.bel.size)⟩

theorem BSt.set {w W : World} {bx : List (Nat × TypeId × Value)} {ds : List Nat} (h : BSt w bx ds W) (i : Nat) {b : Nat} {t : TypeId} {v : Value} (hi : bx[i]? = some (b, t, v)) (v' : Value) : BSt w (bx.set i (b, t, v')) ds (W.setCell ⟨b, 0, none⟩ v') := by
  have hb := h.box i _ hi
  have hil : i < bx.length := (List.getElem?_eq_some_iff.1 hi).1
  refine ⟨fun j x hx => ?_, fun j k x y hx hy he => ?_, fun D hD => ?_, h.bel.setCell (p := ⟨b, 0, none⟩) hb.1 _⟩
  · by_cases hj : i = j
    · subst hj
      rw [List.getElem?_set_self hil] at hx
      cases hx
      exact ⟨hb.1, hb.2.set _⟩
    · rw [List.getElem?_set_ne hj] at hx
      have hx2 := h.box j x hx
      refine ⟨hx2.1, ?_⟩
      have hne : x.1 ≠ b := fun e => hj (h.nd j i x _ hx hi e).symm
      exact (Below.heap_setCell W ⟨b, 0, none⟩ v' x.1 hne).trans hx2.2
  · have key : ∀ (j : Nat) x, (bx.set i (b, t, v'))[j]? = some x → ∃ x', bx[j]? = some x' ∧ x'.1 = x.1 := by
      intro j x hx
      by_cases hj : i = j
      · subst hj
        rw [List.getElem?_set_self hil] at hx
        cases hx
        exact ⟨_, hi, rfl⟩
      · rw [List.getElem?_set_ne hj] at hx
        exact ⟨x, hx, rfl⟩
    obtain ⟨x', a1, a2⟩ := key j x hx
    obtain ⟨y', b1, b2⟩ := key k y hy
    exact h.nd j k x' y' a1 b1 (by omega)
  · have := h.dfr D hD
    refine ⟨this.1, (Below.heap_setCell W ⟨b, 0, none⟩ v' D ?_).trans this.2⟩
    rintro rfl
    have e := hb.2.symm.trans this.2
    cases e

theorem BSt.mark {w W : World} {bx : List (Nat × TypeId × Value)} {ds : List Nat} (h : BSt w bx ds W) : BSt w bx (W.heap.size :: ds) (W.alloc (.deferred (some []))) := by
  have hz := h.bel.size
  refine ⟨fun i x hx => ⟨(h.box i x hx).1, (h.box i x hx).2.alloc _⟩, h.nd, fun D hD => ?_, h.bel.alloc hz _⟩
  rcases List.mem_cons.1 hD with rfl | hD
  · exact ⟨hz, World.alloc_heap_new W _⟩
  · exact ⟨(h.dfr D hD).1, (Below.heap_alloc W _ D (Array.getElem?_eq_some_iff.1 (h.dfr D hD).2).1).trans (h.dfr D hD).2⟩

/-- A block that is no cells and no mark is turned. -/
theorem BSt.put {w W : World} {bx : List (Nat × TypeId × Value)} {ds : List Nat} (h : BSt w bx ds W) {l : Nat} {r : Loop} (hl : W.heap[l]? = some (.loop r)) (hlw : w.heap.size ≤ l) (o : Obj) : BSt w bx ds (W.putObj l o) := by
  refine ⟨fun i x hx => ⟨(h.box i x hx).1, ?_⟩, h.nd, fun D hD => ⟨(h.dfr D hD).1, ?_⟩, h.bel.grown (grownBy_putObj' W l o) h.bel.size (by intro k e; cases e; exact hlw)⟩
  · have hx2 := (h.box i x hx).2
    refine (World.putObj_heap_other ?_).trans hx2
    rintro e
    have e2 : W.heap[l]? = some (.cells #[x.2.2] x.2.1 (0, 0)) := by rw [← e]; exact hx2
    rw [hl] at e2; cases e2
  · have hd := (h.dfr D hD).2
    refine (World.putObj_heap_other ?_).trans hd
    rintro e
    rw [e, hl] at hd; cases hd

/-- The same while a loop runs: its record, too. -/
structure LSt (w : World) (bx : List (Nat × TypeId × Value)) (ds : List Nat) (l : Nat) (r : Loop) (W : World) : Prop where
  st : BSt w bx ds W
  loop : W.heap[l]? = some (.loop r)
  ol : w.heap.size ≤ l

theorem LSt.enter {w W : World} {bx : List (Nat × TypeId × Value)} {ds : List Nat} (h : BSt w bx ds W) (r : Loop) : LSt w bx (W.heap.size :: ds) (W.heap.size + 1) r ((W.alloc (.deferred (some []))).alloc (.loop r)) := by
  have h1 := h.mark
  have hz := h.bel.size
  refine ⟨h1.below ((Below.refl _ _).alloc (Nat.le_refl _) _), ?_, by omega⟩
  have := World.alloc_heap_new (W.alloc (.deferred (some []))) (.loop r)
  rwa [World.size_alloc] at this
theorem LSt.below {w W W' : World} {bx : List (Nat × TypeId × Value)} {ds : List Nat} {l : Nat} {r : Loop} (h : LSt w bx ds l r W) (hb : Below W.heap.size W W') : LSt w bx ds l r W' :=
  ⟨h.st.below hb, (hb.block _ (Array.getElem?_eq_some_iff.1 h.loop).1).trans h.loop, h.ol⟩
theorem LSt.put {w W : World} {bx : List (Nat × TypeId × Value)} {ds : List Nat} {l : Nat} {r : Loop} (h : LSt w bx ds l r W) (r' : Loop) : LSt w bx ds l r' (W.putObj l (.loop r')) :=
  ⟨h.st.put h.loop h.ol _, World.putObj_heap_same (Array.getElem?_eq_some_iff.1 h.loop).1, h.ol⟩
theorem LSt.set {w W : World} {bx : List (Nat × TypeId × Value)} {ds : List Nat} {l : Nat} {r : Loop} (h : LSt w bx ds l r W) (i : Nat) {b : Nat} {t : TypeId} {v : Value} (hi : bx[i]? = some (b, t, v)) (v' : Value) : LSt w (bx.set i (b, t, v')) ds l r (W.setCell ⟨b, 0, none⟩ v') := by
  refine ⟨h.st.set i hi v', (Below.heap_setCell W ⟨b, 0, none⟩ v' l ?_).trans h.loop, h.ol⟩
  rintro rfl
  have e := (h.st.get i hi).symm.trans h.loop
  cases e

/-- What stands behind the marks' taking. -/
theorem BSt.take {w W : World} {bx : List (Nat × TypeId × Value)} {D : Nat} {ds : List Nat} (h : BSt w bx (D :: ds) W) (hn : D ∉ ds) : BSt w bx ds (W.putObj D (.deferred none)) := by
  have hD := h.dfr D (by simp)
  refine ⟨fun i x hx => ⟨(h.box i x hx).1, ?_⟩, h.nd, fun E hE => ⟨(h.dfr E (by simp [hE])).1, ?_⟩, h.bel.grown (grownBy_putObj' W D _) h.bel.size (by intro k e; cases e; exact hD.1)⟩
  · have hx2 := (h.box i x hx).2
    refine (World.putObj_heap_other ?_).trans hx2
    rintro e
    have e2 : W.heap[D]? = some (.cells #[x.2.2] x.2.1 (0, 0)) := by rw [← e]; exact hx2
    rw [hD.2] at e2; cases e2
  · have hd := (h.dfr E (by simp [hE])).2
    exact (World.putObj_heap_other (by rintro rfl; exact hn hE)).trans hd

/-- The same where what lies from N on may have turned. -/
theorem LSt.belowN {w W W' : World} {bx : List (Nat × TypeId × Value)} {ds : List Nat} {l N : Nat} {r : Loop} (h : LSt w bx ds l r W) (hb : Below N W W') (hbx : ∀ x ∈ bx, x.1 < N) (hds : ∀ D ∈ ds, D < N) (hl : l < N) (hw : w.heap.size ≤ N) : LSt w bx ds l r W' :=
  ⟨⟨fun i x hx => ⟨(h.st.box i x hx).1, (hb.block _ (hbx x (List.mem_of_getElem? hx))).trans (h.st.box i x hx).2⟩, h.st.nd, fun D hD => ⟨(h.st.dfr D hD).1, (hb.block _ (hds D hD)).trans (h.st.dfr D hD).2⟩, h.st.bel.trans (hb.mono hw)⟩, (hb.block _ hl).trans h.loop, h.ol⟩

end Go.Proofs.YtcbcdfdicefkoaaGreatDoor
