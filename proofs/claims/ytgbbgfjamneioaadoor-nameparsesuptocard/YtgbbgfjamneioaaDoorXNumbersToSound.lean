/-
  oid.numbers$1, the function that is ranged over: it goes over the numbers in a content, each with its place, and gives up at the first that is wrong.
  The functions that oid.Decode and oid.sound defer: what they catch.
  oid.sound: how many bytes the numbers have that stand ahead of the first one that is wrong (soundS).
-/
import Derived.RangeFuncNested
import Derived.RangeFuncBound
import Derived.RangeFuncCalls
import Derived.RangeFuncLeaves
import Derived.Shelf.Abstract
import Derived.Shelf.RegionOpen
import Derived.WalkKit
import Derived.OwnWalkIn
import Derived.TacticsInMore
import Derived.LoopNIn
import Derived.LoopIn
import Derived.Test.YtgbbgfjamneioaaDoorXOSizeToRangeP
import Derived.RecoverIn
import Derived.RangeFuncBox
namespace Go.Proofs.YtgbbgfjamneioaaDoor
open Go.RowKit Go.Shelf Go.IntWalk
attribute [local go_sem] Oper.semAt_some

/-- What is kept while the numbers are gone over: the bytes, and the variable that holds them. -/
def Held (Bs : Nat) (ao : Option Addr) (len cap : Nat) (xs : List Int) (W : World) : Prop := Src W ao len cap xs ∧ W.cell? ⟨Bs, 0, none⟩ = some (.slice ao len cap)

set_option maxRecDepth 100000 in
set_option maxHeartbeats 4000000 in
theorem numbers1_in (n : Nat) (hn : 1 ≤ n) (l Bs : Nat) (ao : Option Addr) (len cap : Nat) (xs : List Int) (hN : len ≤ 140737488355328) (J : Nat → World → Prop) (Jx : World → Prop) (W : World)
    (hH : ∀ p W1, J p W1 → Held Bs ao len cap xs W1) (hDr : ∀ p W1 W2, J p W1 → Drawn W1 W2 → J p W2)
    (hY : ∀ (p k : Nat) (N : Int) W1, J p W1 → p < len → p + k ≤ len → 0 < k → nextS (xs.drop p) = (N, k, 0) → YieldAt Fence.wide (n - 1) Tryd.prog l #[.int .i64 p, .int .i64 N] W1 fun e W' =>
      (e = .returned (.bool true) ∧ J (p + k) W') ∨ (e = .returned (.bool false) ∧ Jx W'))
    (h0 : J 0 W) :
    CallsIn Fence.wide n Tryd.prog 99 #[.func (.yield l) #[] #[], .pointer (some ⟨Bs, 0, none⟩)] W fun e W' =>
      ((∃ v, e = .returned v) ∧ (J len W' ∨ Jx W')) ∨ (∃ p, p < len ∧ (nextS (xs.drop p)).2.2 ≠ 0 ∧ e = .panicked (errP (nextS (xs.drop p)).2.2) ∧ J p W') := by
  have HL := hide (hH 0 W h0).1.hlen
  refine callsIn_of_wp Tryd.func99 rfl trivial ?_ rfl
  simp only [Tryd.ntmps99, List.size_toArray, List.length_cons, List.length_nil, Nat.reduceAdd, Nat.reduceSub, Array.replicate_succ, Array.replicate_zero, List.push_toArray, List.append_toArray, List.nil_append, List.cons_append]
  gi_wp2
  gi_loopw [3] (fun i wr => ∃ p : Nat, i = .int .i64 p ∧ p ≤ len ∧ Hid (J p wr)) (fun i _ => len - (intOf i).toNat)
  case atStart => exact ⟨0, rfl, Nat.zero_le _, h0⟩
  case round =>
    obtain ⟨p, rfl, hp, hJ⟩ := hrel
    obtain ⟨hsrc, hc⟩ := hH p _ hJ.out
    by_cases hlt : p < len
    · have hs1 := hsrc.cut p len hp (Nat.le_refl _)
      have ed : (xs.take len).drop p = xs.drop p := by rw [List.take_of_length_le (by rw [HL.out]; exact Nat.le_refl _)]
      rw [ed] at hs1
      have sl := fun X => slice_lo X ao len cap p p rfl hp
      generalize cutA ao cap p = A at hs1 sl
      have hltI : (p : Int) < (len : Int) := by omega
      have hnum := hide (number_any _ _ _ (xs.drop p) _ hs1 (by omega) (by omega))
      have hbyt := hide hs1.hbyt
      clear hs1 ed hsrc
      by_cases hz : (nextS (xs.drop p)).2.2 = 0
      · have hin := nextS_in (xs.drop p) hz
        have hsz := nextS_size (xs.drop p) hbyt.out hz
        obtain ⟨N, k, hnk⟩ : ∃ N k, nextS (xs.drop p) = (N, k, 0) := ⟨(nextS (xs.drop p)).1, (nextS (xs.drop p)).2.1, by rw [← hz]⟩
        have HY := hide (fun W1 (h : J p W1) => hY p k N W1 h hlt (by have h2 := hin.2.2.2; rw [hnk, List.length_drop, HL.out] at h2; have h3 : k ≤ len - p := h2; omega) (by have h2 := hin.2.2.1; rw [hnk] at h2; exact h2) hnk)
        rw [hnk] at hnum hin hsz
        have q0 : 0 ≤ N := hin.1
        have q1 : N ≤ 2147483647 := hin.2.1
        have q2 : 0 < k := hin.2.2.1
        have q3 : p + k ≤ len := by have h2 := hin.2.2.2; rw [List.length_drop, HL.out] at h2; have h3 : k ≤ len - p := h2; omega
        have hsz : Hid (sizeS N = (k : Int)) := hsz
        have hnum : Hid (Calls Tryd.prog 100 #[.slice A (len - p) (cap - p)] wr fun e w' => e = .returned (.int .i64 N) ∧ Drawn wr w') := hnum
        clear hnk hin hz hY
        have hsc := hide (fun W => osize_any N q0 (by omega) W)
        rw [hsz.out] at hsc
        have hDr' := hide (hDr p)
        gi_wp2_with (refine ⟨trivial, ?_⟩; gi_at_call 100; refine (callsIn_wide.2 hnum.out).mono ?_; rintro e w1 ⟨rfl, D1⟩; obtain ⟨fn, tmps, assign, body, hy, hR⟩ := HY.out w1 (hDr'.out _ _ hJ.out D1))
        refine hR.mono ?_
        rintro e W3 (⟨rfl, hJ3⟩ | ⟨rfl, hJx3⟩)
        · gi_wp2_with (refine ⟨trivial, ?_⟩; gi_at_call 90; refine (callsIn_wide.2 (hsc.out _)).mono ?_; rintro e w4 ⟨rfl, hw4⟩)
          exact ⟨⟨p + k, by simp, q3, hJ3⟩, by simp [intOf]; omega⟩
        · gi_wp2
          refine bodyPost_ret (results_none rfl _ _ _) rfl ?_
          exact .inl ⟨⟨_, rfl⟩, .inr hJx3⟩
      · have hbad := hide hz
        have hnum : Hid (Calls Tryd.prog 100 #[.slice A (len - p) (cap - p)] wr fun e w' => e = .panicked (errP (nextS (xs.drop p)).2.2) ∧ Drawn wr w') := by
          refine hnum.out.mono ?_
          rintro e w1 ⟨rfl, D1⟩
          exact ⟨by unfold numEnd; rw [if_neg hbad.out], D1⟩
        clear hz hY
        have hDr' := hide (hDr p)
        gi_wp2_with (refine ⟨trivial, ?_⟩; gi_at_call 100; refine (callsIn_wide.2 hnum.out).mono ?_; rintro e w1 ⟨rfl, D1⟩)
        exact ⟨rfl, .inr ⟨p, hlt, hbad.out, rfl, hDr'.out _ _ hJ.out D1⟩⟩
    · obtain rfl : p = len := by omega
      gi_wp2
      go_end0
      exact .inl ⟨⟨_, rfl⟩, .inl hJ.out⟩

end Go.Proofs.YtgbbgfjamneioaaDoor

namespace Go.Proofs.YtgbbgfjamneioaaDoor
open Go.RowKit Go.IntWalk

theorem ta_nil (w : World) : (Instr.typeAssert Value.nilIface 20 26 true).run Tryd.prog w = .ok (.tuple #[.int .i64 0, .bool false]) w := by kernel_rfl
theorem ta_err (x : Int) (w : World) : (Instr.typeAssert (.iface 26 (.int .i64 x)) 20 26 true).run Tryd.prog w = .ok (.tuple #[.int .i64 x, .bool true]) w := by kernel_rfl

set_option maxRecDepth 100000 in
set_option maxHeartbeats 1000000 in
theorem decode1_idle (n : Nat) (p q : Addr) (w : World) :
    CallsDIn Fence.wide n Tryd.prog 88 #[.pointer (some p), .pointer (some q)] .returning w fun e u' w' => e = .returned (.tuple #[]) ∧ u' = .returning ∧ w' = w := by
  refine callsDIn_of_wpSIn Tryd.func88 rfl trivial fun c₀ cs hu => ?_
  have h1 := ta_nil
  apply wpSIn_seq
  apply wpSIn_region
  simp [wpOpsSIn, go_sem, recoverD, hu, Tryd.ntmps88, Exit.thenS, h1, Array.replicate]
  apply wpSIn_seq
  apply wpSIn_region
  simp [wpOpsSIn, go_sem, Exit.thenS]
  refine wpSIn_cond (t := false) (by simp [Act.eval]) ?_
  simp only [Bool.false_eq_true, if_false]
  refine wpSIn_of_wpIn rfl (wpIn_skip ?_)
  cases c₀
  simp_all [bodyPostS, results, Tryd.results88]

set_option maxRecDepth 100000 in
set_option maxHeartbeats 1000000 in
theorem decode1_caught (n : Nat) (x : Int) (p q : Addr) (w : World) (v1 v2 : Value) (hp : w.cell? p = some v1) (hf : w.frozen? p = false) (hq : (w.setCell p (.slice none 0 0)).cell? q = some v2) (hg : (w.setCell p (.slice none 0 0)).frozen? q = false) :
    CallsDIn Fence.wide n Tryd.prog 88 #[.pointer (some p), .pointer (some q)] (.panicking (errP x)) w fun e u' w' => e = .returned (.tuple #[]) ∧ settle u' = .returning ∧ w' = (w.setCell p (.slice none 0 0)).setCell q (.int .i64 x) := by
  refine callsDIn_of_wpSIn Tryd.func88 rfl trivial fun c₀ cs hu => ?_
  unfold errP at hu
  have h1 := ta_err x
  apply wpSIn_seq
  apply wpSIn_region
  simp [wpOpsSIn, go_sem, recoverD, hu, Tryd.ntmps88, Exit.thenS, h1, Array.replicate]
  apply wpSIn_seq
  apply wpSIn_region
  simp [wpOpsSIn, go_sem, Exit.thenS]
  refine wpSIn_cond (t := true) (by simp [Act.eval]) ?_
  simp only [if_true]
  apply wpSIn_region
  simp [wpOpsSIn, go_sem, hp, hf, hq, hg, bodyPostS, results, Tryd.results88, settle]

end Go.Proofs.YtgbbgfjamneioaaDoor

namespace Go.Proofs.YtgbbgfjamneioaaDoor
open Go.RowKit Go.Shelf Go.IntWalk
attribute [local go_sem] Oper.semAt_some

def soundF (xs : List Int) : Nat → Nat → Nat
  | 0, p => p
  | f + 1, p => if p < xs.length ∧ (nextS (xs.drop p)).2.2 = 0 then soundF xs f (p + (nextS (xs.drop p)).2.1) else p
def soundG (xs : List Int) (p : Nat) : Nat := soundF xs (xs.length - p) p

theorem soundF_any (xs : List Int) : ∀ (f g p : Nat), xs.length - p ≤ f → xs.length - p ≤ g → soundF xs f p = soundF xs g p := by
  intro f
  induction f with
  | zero =>
    intro g p h1 _
    cases g with
    | zero => rfl
    | succ g => simp only [soundF]; rw [if_neg (by omega)]
  | succ f ih =>
    intro g p h1 h2
    cases g with
    | zero => simp only [soundF]; rw [if_neg (by omega)]
    | succ g =>
      simp only [soundF]
      split
      · rename_i h
        have := nextS_in (xs.drop p) h.2
        exact ih g _ (by omega) (by omega)
      · rfl
theorem sound_stop (xs : List Int) (p : Nat) (h : ¬ (p < xs.length ∧ (nextS (xs.drop p)).2.2 = 0)) : soundG xs p = p := by
  rw [soundG, soundF_any xs _ (xs.length - p + 1) p (Nat.le_refl _) (by omega), soundF, if_neg h]
theorem sound_next (xs : List Int) (p : Nat) (h : p < xs.length) (he : (nextS (xs.drop p)).2.2 = 0) : soundG xs p = soundG xs (p + (nextS (xs.drop p)).2.1) := by
  have := nextS_in (xs.drop p) he
  rw [soundG, soundF_any xs _ (xs.length - p + 1) p (Nat.le_refl _) (by omega), soundF, if_pos ⟨h, he⟩, soundG]
  exact soundF_any xs _ _ _ (by omega) (by omega)

/-- What oid.numbers answers. -/
theorem numbers_in (n : Nat) (ao : Option Addr) (len cap : Nat) (w : World) :
    CallsIn Fence.wide n Tryd.prog 89 #[.slice ao len cap] w fun e w' => e = .returned (.func (.func 99) #[] #[.pointer (some ⟨w.heap.size, 0, none⟩)]) ∧ w' = w.alloc (.cells #[.slice ao len cap] 25) := by
  refine callsIn_of_wp Tryd.func89 rfl trivial ?_ rfl
  simp only [Tryd.ntmps89, List.size_toArray, List.length_cons, List.length_nil, Nat.reduceAdd, Nat.reduceSub, Array.replicate_succ, Array.replicate_zero, List.push_toArray, List.append_toArray, List.nil_append, List.cons_append]
  gi_wp2
  go_ret
  exact ⟨rfl, rfl⟩

/-- Between two rounds of sound's loop. -/
structure SInv (w : World) (xs : List Int) (ao : Option Addr) (n cap : Nat) (r : LoopState → Option Code → Loop) (p : Nat) (W : World) : Prop where
  loop : W.heap[w.heap.size + 3]? = some (.loop (r .ready none))
  dfr : W.heap[w.heap.size + 2]? = some (.deferred (some []))
  fin : Boxed W w.heap.size 3 (.int .i64 p)
  b : Boxed W (w.heap.size + 1) 25 (.slice ao n cap)
  at_ : soundG xs 0 = soundG xs p
  bel : Below w.heap.size w W

theorem SInv.drawn {w : World} {xs : List Int} {ao : Option Addr} {n cap : Nat} {r : LoopState → Option Code → Loop} {p : Nat} {W W' : World} (h : SInv w xs ao n cap r p W) (d : Drawn W W') : SInv w xs ao n cap r p W' :=
  ⟨by rw [d.heap]; exact h.loop, by rw [d.heap]; exact h.dfr, by unfold Boxed; rw [d.heap]; exact h.fin, by unfold Boxed; rw [d.heap]; exact h.b, h.at_, d.below h.bel⟩

/-- One round: the place behind the number is written. -/
theorem SInv.next {w : World} {xs : List Int} {ao : Option Addr} {n cap : Nat} {r : LoopState → Option Code → Loop} {p k : Nat} {W : World} (h : SInv w xs ao n cap r p W) (hk : soundG xs p = soundG xs (p + k)) (v : Int) (hv : v = (p : Int) + (k : Int)) :
    ((W.putObj (w.heap.size + 3) (.loop (r .busy none))).setCell ⟨w.heap.size, 0, none⟩ (.int .i64 v)).heap[w.heap.size + 3]? = some (.loop (r .busy none)) ∧
    SInv w xs ao n cap r (p + k) (((W.putObj (w.heap.size + 3) (.loop (r .busy none))).setCell ⟨w.heap.size, 0, none⟩ (.int .i64 v)).putObj (w.heap.size + 3) (.loop (r .ready none))) := by
  have hv' : v = ((p + k : Nat) : Int) := by rw [hv]; simp
  subst hv'
  have hlt : w.heap.size + 3 < W.heap.size := (Array.getElem?_eq_some_iff.1 h.loop).1
  have h1 : ((W.putObj (w.heap.size + 3) (.loop (r .busy none))).setCell ⟨w.heap.size, 0, none⟩ (.int .i64 ((p + k : Nat) : Int))).heap[w.heap.size + 3]? = some (.loop (r .busy none)) := by
    rw [Below.heap_setCell _ _ _ _ (by simp)]; exact World.putObj_heap_same hlt
  have hlt2 := (Array.getElem?_eq_some_iff.1 h1).1
  have f1 := (h.fin.kept (grownBy_putObj' W (w.heap.size + 3) (.loop (r .busy none))) (by simp)).set (.int .i64 ((p + k : Nat) : Int))
  have b1 := (h.b.kept (grownBy_putObj' W (w.heap.size + 3) (.loop (r .busy none))) (by simp)).other (B' := w.heap.size) (by omega) (.int .i64 ((p + k : Nat) : Int))
  refine ⟨h1, World.putObj_heap_same hlt2, ?_, f1.kept (grownBy_putObj' _ _ _) (by simp), b1.kept (grownBy_putObj' _ _ _) (by simp), h.at_.trans hk, ?_⟩
  · rw [World.putObj_heap_other (by omega), Below.heap_setCell _ _ _ _ (by simp), World.putObj_heap_other (by omega)]
    exact h.dfr
  · refine (((h.bel.grown (grownBy_putObj' W _ _) h.bel.size (by intro k e; cases e; omega)).setCell (Nat.le_refl _) _)).grown (grownBy_putObj' _ _ _) ?_ (by intro k e; cases e; omega)
    omega

end Go.Proofs.YtgbbgfjamneioaaDoor
