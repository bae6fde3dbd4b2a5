/-
  The functions that oid.Decode and oid.sound defer: what they catch.
  oid.sound: how many bytes the numbers have that stand ahead of the first one that is wrong (soundS).
-/
import Derived.RecoverIn
import Derived.RangeFuncLeaves
import Derived.WalkKit
import Derived.Test.YtgbbgfjamneioaaZNumberToNumbers
import Derived.RangeFuncBox
namespace Go.Proofs.Ytgbbgfjamneioaa
open Go.RowKit Go.IntWalk

theorem ta_nil (w : World) : (Instr.typeAssert Value.nilIface 20 25 true).run Try.prog w = .ok (.tuple #[.int .i64 0, .bool false]) w := by kernel_rfl
theorem ta_err (x : Int) (w : World) : (Instr.typeAssert (.iface 25 (.int .i64 x)) 20 25 true).run Try.prog w = .ok (.tuple #[.int .i64 x, .bool true]) w := by kernel_rfl

set_option maxRecDepth 100000 in
set_option maxHeartbeats 1000000 in
theorem decode1_idle (n : Nat) (p q : Addr) (w : World) :
    CallsDIn Fence.wide n Try.prog 38 #[.pointer (some p), .pointer (some q)] .returning w fun e u' w' => e = .returned (.tuple #[]) ∧ u' = .returning ∧ w' = w := by
  refine callsDIn_of_wpSIn Try.func38 rfl trivial fun c₀ cs hu => ?_
  have h1 := ta_nil
  apply wpSIn_seq
  apply wpSIn_region
  simp [wpOpsSIn, go_sem, recoverD, hu, Try.ntmps38, Exit.thenS, h1, Array.replicate]
  apply wpSIn_seq
  apply wpSIn_region
  simp [wpOpsSIn, go_sem, Exit.thenS]
  refine wpSIn_cond (t := false) (by simp [Act.eval]) ?_
  simp only [Bool.false_eq_true, if_false]
  refine wpSIn_of_wpIn rfl (wpIn_skip ?_)
  cases c₀
  simp_all [bodyPostS, results, Try.results38]

set_option maxRecDepth 100000 in
set_option maxHeartbeats 1000000 in
theorem decode1_caught (n : Nat) (x : Int) (p q : Addr) (w : World) (v1 v2 : Value) (hp : w.cell? p = some v1) (hf : w.frozen? p = false) (hq : (w.setCell p (.slice none 0 0)).cell? q = some v2) (hg : (w.setCell p (.slice none 0 0)).frozen? q = false) :
    CallsDIn Fence.wide n Try.prog 38 #[.pointer (some p), .pointer (some q)] (.panicking (errP x)) w fun e u' w' => e = .returned (.tuple #[]) ∧ settle u' = .returning ∧ w' = (w.setCell p (.slice none 0 0)).setCell q (.int .i64 x) := by
  refine callsDIn_of_wpSIn Try.func38 rfl trivial fun c₀ cs hu => ?_
  unfold errP at hu
  have h1 := ta_err x
  apply wpSIn_seq
  apply wpSIn_region
  simp [wpOpsSIn, go_sem, recoverD, hu, Try.ntmps38, Exit.thenS, h1, Array.replicate]
  apply wpSIn_seq
  apply wpSIn_region
  simp [wpOpsSIn, go_sem, Exit.thenS]
  refine wpSIn_cond (t := true) (by simp [Act.eval]) ?_
  simp only [if_true]
  apply wpSIn_region
  simp [wpOpsSIn, go_sem, hp, hf, hq, hg, bodyPostS, results, Try.results38, settle]

end Go.Proofs.Ytgbbgfjamneioaa

namespace Go.Proofs.Ytgbbgfjamneioaa
open Go.RowKit Go.Shelf Go.IntWalk
attribute [local go_sem] Oper.semAt_some

def soundF (xs : List Int) : Nat → Nat → Nat
  | 0, p => p
  | f + 1, p => if p < xs.length ∧ (nextS (xs.drop p)).2.2 = 0 then soundF xs f (p + (nextS (xs.drop p)).2.1) else p
def soundG (xs : List Int) (p : Nat) : Nat := soundF xs (xs.length - p) p

theorem soundF_any (xs : List Int) : ∀ (f g p : Nat), xs.length - p ≤ f → xs.length - p ≤ g → soundF xs f p = soundF xs g p := by
  intro f
  induction f with
  | zero =>
    intro g p h1 _
    cases g with
    | zero => rfl
    | succ g => simp only [soundF]; rw [if_neg (by omega)]
  | succ f ih =>
    intro g p h1 h2
    cases g with
    | zero => simp only [soundF]; rw [if_neg (by omega)]
    | succ g =>
      simp only [soundF]
      split
      · rename_i h
        have := nextS_in (xs.drop p) h.2
        exact ih g _ (by omega) (by omega)
      · rfl
theorem sound_stop (xs : List Int) (p : Nat) (h : ¬ (p < xs.length ∧ (nextS (xs.drop p)).2.2 = 0)) : soundG xs p = p := by
  rw [soundG, soundF_any xs _ (xs.length - p + 1) p (Nat.le_refl _) (by omega), soundF, if_neg h]
theorem sound_next (xs : List Int) (p : Nat) (h : p < xs.length) (he : (nextS (xs.drop p)).2.2 = 0) : soundG xs p = soundG xs (p + (nextS (xs.drop p)).2.1) := by
  have := nextS_in (xs.drop p) he
  rw [soundG, soundF_any xs _ (xs.length - p + 1) p (Nat.le_refl _) (by omega), soundF, if_pos ⟨h, he⟩, soundG]
  exact soundF_any xs _ _ _ (by omega) (by omega)

/-- What oid.numbers answers. -/
theorem numbers_in (n : Nat) (ao : Option Addr) (len cap : Nat) (w : World) :
    CallsIn Fence.wide n Try.prog 39 #[.slice ao len cap] w fun e w' => e = .returned (.func (.func 53) #[] #[.pointer (some ⟨w.heap.size, 0, none⟩)]) ∧ w' = w.alloc (.cells #[.slice ao len cap] 22) := by
  refine callsIn_of_wp Try.func39 rfl trivial ?_ rfl
  simp only [Try.ntmps39, List.size_toArray, List.length_cons, List.length_nil, Nat.reduceAdd, Nat.reduceSub, Array.replicate_succ, Array.replicate_zero, List.push_toArray, List.append_toArray, List.nil_append, List.cons_append]
  gi_wp2
  go_ret
  exact ⟨rfl, rfl⟩

/-- Between two rounds of sound's loop. -/
structure SInv (w : World) (xs : List Int) (ao : Option Addr) (n cap : Nat) (r : LoopState → Option Code → Loop) (p : Nat) (W : World) : Prop where
  loop : W.heap[w.heap.size + 3]? = some (.loop (r .ready none))
  dfr : W.heap[w.heap.size + 2]? = some (.deferred (some []))
  fin : Boxed W w.heap.size 3 (.int .i64 p)
  b : Boxed W (w.heap.size + 1) 22 (.slice ao n cap)
  at_ : soundG xs 0 = soundG xs p
  bel : Below w.heap.size w W

theorem SInv.drawn {w : World} {xs : List Int} {ao : Option Addr} {n cap : Nat} {r : LoopState → Option Code → Loop} {p : Nat} {W W' : World} (h : SInv w xs ao n cap r p W) (d : Drawn W W') : SInv w xs ao n cap r p W' :=
  ⟨by rw [d.heap]; exact h.loop, by rw [d.heap]; exact h.dfr, by unfold Boxed; rw [d.heap]; exact h.fin, by unfold Boxed; rw [d.heap]; exact h.b, h.at_, d.below h.bel⟩

/-- One round: the place behind the number is written. -/
theorem SInv.next {w : World} {xs : List Int} {ao : Option Addr} {n cap : Nat} {r : LoopState → Option Code → Loop} {p k : Nat} {W : World} (h : SInv w xs ao n cap r p W) (hk : soundG xs p = soundG xs (p + k)) (v : Int) (hv : v = (p : Int) + (k : Int)) :
    ((W.putObj (w.heap.size + 3) (.loop (r .busy none))).setCell ⟨w.heap.size, 0, none⟩ (.int .i64 v)).heap[w.heap.size + 3]? = some (.loop (r .busy none)) ∧
    SInv w xs ao n cap r (p + k) (((W.putObj (w.heap.size + 3) (.loop (r .busy none))).setCell ⟨w.heap.size, 0, none⟩ (.int .i64 v)).putObj (w.heap.size + 3) (.loop (r .ready none))) := by
  have hv' : v = ((p + k : Nat) : Int) := by rw [hv]; simp
  subst hv'
  have hlt : w.heap.size + 3 < W.heap.size := (Array.getElem?_eq_some_iff.1 h.loop).1
  have h1 : ((W.putObj (w.heap.size + 3) (.loop (r .busy none))).setCell ⟨w.heap.size, 0, none⟩ (.int .i64 ((p + k : Nat) : Int))).heap[w.heap.size + 3]? = some (.loop (r .busy none)) := by
    rw [Below.heap_setCell _ _ _ _ (by simp)]; exact World.putObj_heap_same hlt
  have hlt2 := (Array.getElem?_eq_some_iff.1 h1).1
  have f1 := (h.fin.kept (grownBy_putObj' W (w.heap.size + 3) (.loop (r .busy none))) (by simp)).set (.int .i64 ((p + k : Nat) : Int))
  have b1 := (h.b.kept (grownBy_putObj' W (w.heap.size + 3) (.loop (r .busy none))) (by simp)).other (B' := w.heap.size) (by omega) (.int .i64 ((p + k : Nat) : Int))
  refine ⟨h1, World.putObj_heap_same hlt2, ?_, f1.kept (grownBy_putObj' _ _ _) (by simp), b1.kept (grownBy_putObj' _ _ _) (by simp), h.at_.trans hk, ?_⟩
  · rw [World.putObj_heap_other (by omega), Below.heap_setCell _ _ _ _ (by simp), World.putObj_heap_other (by omega)]
    exact h.dfr
  · refine (((h.bel.grown (grownBy_putObj' W _ _) h.bel.size (by intro k e; cases e; omega)).setCell (Nat.le_refl _) _)).grown (grownBy_putObj' _ _ _) ?_ (by intro k e; cases e; omega)
    omega

end Go.Proofs.Ytgbbgfjamneioaa
