/-
  oid.numbers$1, the function that is ranged over: it goes over the numbers in a content, each with its place, and gives up at the first that is wrong.
  The functions that oid.Decode and oid.sound defer: what they catch.
  oid.sound: how many bytes the numbers have that stand ahead of the first one that is wrong (soundS).
  What a content is read as (decS): the arcs, or what is wrong first. No program.
  What lies in memory while oid.Decode goes over the numbers: its variables, the row of arcs, the loop's record. And appending to rows of numbers within a fence.
  oid.Decode reads a content as decS says.
  A region that draws its order within a round of a range over a function: where no operation of it defers, it goes as outside of rounds; so one walk in the order of the text serves. No program.
-/
import Derived.RangeFuncNested
import Derived.RangeFuncBound
import Derived.RangeFuncCalls
import Derived.RangeFuncLeaves
import Derived.Shelf.Abstract
import Derived.Shelf.RegionOpen
import Derived.WalkKit
import Derived.OwnWalkIn
import Derived.TacticsInMore
import Derived.LoopNIn
import Derived.LoopIn
import Derived.Test.YtklchpdpooikdaaGreatDoorXOSizeToRangeP
import Derived.RecoverIn
import Derived.RangeFuncBox
import Derived.Test.YtklchpdpooikdaaGreatDoorXItsToNextS
import Derived.Sort.QuietIn
import Derived.Test.YtklchpdpooikdaaGreatDoorXBaseToBts
import Derived.Sort.QuietTacIn
namespace Go.Proofs.YtklchpdpooikdaaGreatDoor
open Go.RowKit Go.Shelf Go.IntWalk
attribute [local go_sem] Oper.semAt_some

/-- What is kept while the numbers are gone over: the bytes, and the variable that holds them. -/
def Held (Bs : Nat) (ao : Option Addr) (len cap : Nat) (xs : List Int) (W : World) : Prop := Src W ao len cap xs ∧ W.cell? ⟨Bs, 0, none⟩ = some (.slice ao len cap)

set_option maxRecDepth 100000 in
set_option maxHeartbeats 4000000 in
theorem numbers1_in (n : Nat) (hn : 1 ≤ n) (l Bs : Nat) (ao : Option Addr) (len cap : Nat) (xs : List Int) (hN : len ≤ 140737488355328) (J : Nat → World → Prop) (Jx : World → Prop) (W : World)
    (hH : ∀ p W1, J p W1 → Held Bs ao len cap xs W1) (hDr : ∀ p W1 W2, J p W1 → Drawn W1 W2 → J p W2)
    (hY : ∀ (p k : Nat) (N : Int) W1, J p W1 → p < len → p + k ≤ len → 0 < k → nextS (xs.drop p) = (N, k, 0) → YieldAt Fence.wide (n - 1) Tryz.prog l #[.int .i64 p, .int .i64 N] W1 fun e W' =>
      (e = .returned (.bool true) ∧ J (p + k) W') ∨ (e = .returned (.bool false) ∧ Jx W'))
    (h0 : J 0 W) :
    CallsIn Fence.wide n Tryz.prog 178 #[.func (.yield l) #[] #[], .pointer (some ⟨Bs, 0, none⟩)] W fun e W' =>
      ((∃ v, e = .returned v) ∧ (J len W' ∨ Jx W')) ∨ (∃ p, p < len ∧ (nextS (xs.drop p)).2.2 ≠ 0 ∧ e = .panicked (errP (nextS (xs.drop p)).2.2) ∧ J p W') := by
  have HL := hide (hH 0 W h0).1.hlen
  refine callsIn_of_wp Tryz.func178 rfl trivial ?_ rfl
  simp only [Tryz.ntmps178, List.size_toArray, List.length_cons, List.length_nil, Nat.reduceAdd, Nat.reduceSub, Array.replicate_succ, Array.replicate_zero, List.push_toArray, List.append_toArray, List.nil_append, List.cons_append]
  gi_wp2
  gi_loopw [3] (fun i wr => ∃ p : Nat, i = .int .i64 p ∧ p ≤ len ∧ Hid (J p wr)) (fun i _ => len - (intOf i).toNat)
  case atStart => exact ⟨0, rfl, Nat.zero_le _, h0⟩
  case round =>
    obtain ⟨p, rfl, hp, hJ⟩ := hrel
    obtain ⟨hsrc, hc⟩ := hH p _ hJ.out
    by_cases hlt : p < len
    · have hs1 := hsrc.cut p len hp (Nat.le_refl _)
      have ed : (xs.take len).drop p = xs.drop p := by rw [List.take_of_length_le (by rw [HL.out]; exact Nat.le_refl _)]
      rw [ed] at hs1
      have sl := fun X => slice_lo X ao len cap p p rfl hp
      generalize cutA ao cap p = A at hs1 sl
      have hltI : (p : Int) < (len : Int) := by omega
      have hnum := hide (number_any _ _ _ (xs.drop p) _ hs1 (by omega) (by omega))
      have hbyt := hide hs1.hbyt
      clear hs1 ed hsrc
      by_cases hz : (nextS (xs.drop p)).2.2 = 0
      · have hin := nextS_in (xs.drop p) hz
        have hsz := nextS_size (xs.drop p) hbyt.out hz
        obtain ⟨N, k, hnk⟩ : ∃ N k, nextS (xs.drop p) = (N, k, 0) := ⟨(nextS (xs.drop p)).1, (nextS (xs.drop p)).2.1, by rw [← hz]⟩
        have HY := hide (fun W1 (h : J p W1) => hY p k N W1 h hlt (by have h2 := hin.2.2.2; rw [hnk, List.length_drop, HL.out] at h2; have h3 : k ≤ len - p := h2; omega) (by have h2 := hin.2.2.1; rw [hnk] at h2; exact h2) hnk)
        rw [hnk] at hnum hin hsz
        have q0 : 0 ≤ N := hin.1
        have q1 : N ≤ 2147483647 := hin.2.1
        have q2 : 0 < k := hin.2.2.1
        have q3 : p + k ≤ len := by have h2 := hin.2.2.2; rw [List.length_drop, HL.out] at h2; have h3 : k ≤ len - p := h2; omega
        have hsz : Hid (sizeS N = (k : Int)) := hsz
        have hnum : Hid (Calls Tryz.prog 179 #[.slice A (len - p) (cap - p)] wr fun e w' => e = .returned (.int .i64 N) ∧ Drawn wr w') := hnum
        clear hnk hin hz hY
        have hsc := hide (fun W => osize_any N q0 (by omega) W)
        rw [hsz.out] at hsc
        have hDr' := hide (hDr p)
        gi_wp2_with (refine ⟨trivial, ?_⟩; gi_at_call 179; refine (callsIn_wide.2 hnum.out).mono ?_; rintro e w1 ⟨rfl, D1⟩; obtain ⟨fn, tmps, assign, body, hy, hR⟩ := HY.out w1 (hDr'.out _ _ hJ.out D1))
        refine hR.mono ?_
        rintro e W3 (⟨rfl, hJ3⟩ | ⟨rfl, hJx3⟩)
        · gi_wp2_with (refine ⟨trivial, ?_⟩; gi_at_call 170; refine (callsIn_wide.2 (hsc.out _)).mono ?_; rintro e w4 ⟨rfl, hw4⟩)
          exact ⟨⟨p + k, by simp, q3, hJ3⟩, by simp [intOf]; omega⟩
        · gi_wp2
          refine bodyPost_ret (results_none rfl _ _ _) rfl ?_
          exact .inl ⟨⟨_, rfl⟩, .inr hJx3⟩
      · have hbad := hide hz
        have hnum : Hid (Calls Tryz.prog 179 #[.slice A (len - p) (cap - p)] wr fun e w' => e = .panicked (errP (nextS (xs.drop p)).2.2) ∧ Drawn wr w') := by
          refine hnum.out.mono ?_
          rintro e w1 ⟨rfl, D1⟩
          exact ⟨by unfold numEnd; rw [if_neg hbad.out], D1⟩
        clear hz hY
        have hDr' := hide (hDr p)
        gi_wp2_with (refine ⟨trivial, ?_⟩; gi_at_call 179; refine (callsIn_wide.2 hnum.out).mono ?_; rintro e w1 ⟨rfl, D1⟩)
        exact ⟨rfl, .inr ⟨p, hlt, hbad.out, rfl, hDr'.out _ _ hJ.out D1⟩⟩
    · obtain rfl : p = len := by omega
      gi_wp2
      go_end0
      exact .inl ⟨⟨_, rfl⟩, .inl hJ.out⟩

end Go.Proofs.YtklchpdpooikdaaGreatDoor

namespace Go.Proofs.YtklchpdpooikdaaGreatDoor
open Go.RowKit Go.IntWalk

theorem ta_nil (w : World) : (Instr.typeAssert Value.nilIface 20 24 true).run Tryz.prog w = .ok (.tuple #[.int .i64 0, .bool false]) w := by kernel_rfl
theorem ta_err (x : Int) (w : World) : (Instr.typeAssert (.iface 24 (.int .i64 x)) 20 24 true).run Tryz.prog w = .ok (.tuple #[.int .i64 x, .bool true]) w := by kernel_rfl

set_option maxRecDepth 100000 in
set_option maxHeartbeats 1000000 in
theorem decode1_idle (n : Nat) (p q : Addr) (w : World) :
    CallsDIn Fence.wide n Tryz.prog 168 #[.pointer (some p), .pointer (some q)] .returning w fun e u' w' => e = .returned (.tuple #[]) ∧ u' = .returning ∧ w' = w := by
  refine callsDIn_of_wpSIn Tryz.func168 rfl trivial fun c₀ cs hu => ?_
  have h1 := ta_nil
  apply wpSIn_seq
  apply wpSIn_region
  simp [wpOpsSIn, go_sem, recoverD, hu, Tryz.ntmps168, Exit.thenS, h1, Array.replicate]
  apply wpSIn_seq
  apply wpSIn_region
  simp [wpOpsSIn, go_sem, Exit.thenS]
  refine wpSIn_cond (t := false) (by simp [Act.eval]) ?_
  simp only [Bool.false_eq_true, if_false]
  refine wpSIn_of_wpIn rfl (wpIn_skip ?_)
  cases c₀
  simp_all [bodyPostS, results, Tryz.results168]

set_option maxRecDepth 100000 in
set_option maxHeartbeats 1000000 in
theorem decode1_caught (n : Nat) (x : Int) (p q : Addr) (w : World) (v1 v2 : Value) (hp : w.cell? p = some v1) (hf : w.frozen? p = false) (hq : (w.setCell p (.slice none 0 0)).cell? q = some v2) (hg : (w.setCell p (.slice none 0 0)).frozen? q = false) :
    CallsDIn Fence.wide n Tryz.prog 168 #[.pointer (some p), .pointer (some q)] (.panicking (errP x)) w fun e u' w' => e = .returned (.tuple #[]) ∧ settle u' = .returning ∧ w' = (w.setCell p (.slice none 0 0)).setCell q (.int .i64 x) := by
  refine callsDIn_of_wpSIn Tryz.func168 rfl trivial fun c₀ cs hu => ?_
  unfold errP at hu
  have h1 := ta_err x
  apply wpSIn_seq
  apply wpSIn_region
  simp [wpOpsSIn, go_sem, recoverD, hu, Tryz.ntmps168, Exit.thenS, h1, Array.replicate]
  apply wpSIn_seq
  apply wpSIn_region
  simp [wpOpsSIn, go_sem, Exit.thenS]
  refine wpSIn_cond (t := true) (by simp [Act.eval]) ?_
  simp only [if_true]
  apply wpSIn_region
  simp [wpOpsSIn, go_sem, hp, hf, hq, hg, bodyPostS, results, Tryz.results168, settle]

end Go.Proofs.YtklchpdpooikdaaGreatDoor

namespace Go.Proofs.YtklchpdpooikdaaGreatDoor
open Go.RowKit Go.Shelf Go.IntWalk
attribute [local go_sem] Oper.semAt_some

def soundF (xs : List Int) : Nat → Nat → Nat
  | 0, p => p
  | f + 1, p => if p < xs.length ∧ (nextS (xs.drop p)).2.2 = 0 then soundF xs f (p + (nextS (xs.drop p)).2.1) else p
def soundG (xs : List Int) (p : Nat) : Nat := soundF xs (xs.length - p) p

theorem soundF_any (xs : List Int) : ∀ (f g p : Nat), xs.length - p ≤ f → xs.length - p ≤ g → soundF xs f p = soundF xs g p := by
  intro f
  induction f with
  | zero =>
    intro g p h1 _
    cases g with
    | zero => rfl
    | succ g => simp only [soundF]; rw [if_neg (by omega)]
  | succ f ih =>
    intro g p h1 h2
    cases g with
    | zero => simp only [soundF]; rw [if_neg (by omega)]
    | succ g =>
      simp only [soundF]
      split
      · rename_i h
        have := nextS_in (xs.drop p) h.2
        exact ih g _ (by omega) (by omega)
      · rfl
theorem sound_stop (xs : List Int) (p : Nat) (h : ¬ (p < xs.length ∧ (nextS (xs.drop p)).2.2 = 0)) : soundG xs p = p := by
  rw [soundG, soundF_any xs _ (xs.length - p + 1) p (Nat.le_refl _) (by omega), soundF, if_neg h]
theorem sound_next (xs : List Int) (p : Nat) (h : p < xs.length) (he : (nextS (xs.drop p)).2.2 = 0) : soundG xs p = soundG xs (p + (nextS (xs.drop p)).2.1) := by
  have := nextS_in (xs.drop p) he
  rw [soundG, soundF_any xs _ (xs.length - p + 1) p (Nat.le_refl _) (by omega), soundF, if_pos ⟨h, he⟩, soundG]
  exact soundF_any xs _ _ _ (by omega) (by omega)

/-- What oid.numbers answers. -/
theorem numbers_in (n : Nat) (ao : Option Addr) (len cap : Nat) (w : World) :
    CallsIn Fence.wide n Tryz.prog 169 #[.slice ao len cap] w fun e w' => e = .returned (.func (.func 178) #[] #[.pointer (some ⟨w.heap.size, 0, none⟩)]) ∧ w' = w.alloc (.cells #[.slice ao len cap] 64) := by
  refine callsIn_of_wp Tryz.func169 rfl trivial ?_ rfl
  simp only [Tryz.ntmps169, List.size_toArray, List.length_cons, List.length_nil, Nat.reduceAdd, Nat.reduceSub, Array.replicate_succ, Array.replicate_zero, List.push_toArray, List.append_toArray, List.nil_append, List.cons_append]
  gi_wp2
  go_ret
  exact ⟨rfl, rfl⟩

/-- Between two rounds of sound's loop. -/
structure SInv (w : World) (xs : List Int) (ao : Option Addr) (n cap : Nat) (r : LoopState → Option Code → Loop) (p : Nat) (W : World) : Prop where
  loop : W.heap[w.heap.size + 3]? = some (.loop (r .ready none))
  dfr : W.heap[w.heap.size + 2]? = some (.deferred (some []))
  fin : Boxed W w.heap.size 3 (.int .i64 p)
  b : Boxed W (w.heap.size + 1) 64 (.slice ao n cap)
  at_ : soundG xs 0 = soundG xs p
  bel : Below w.heap.size w W

theorem SInv.drawn {w : World} {xs : List Int} {ao : Option Addr} {n cap : Nat} {r : LoopState → Option Code → Loop} {p : Nat} {W W' : World} (h : SInv w xs ao n cap r p W) (d : Drawn W W') : SInv w xs ao n cap r p W' :=
  ⟨by rw [d.heap]; exact h.loop, by rw [d.heap]; exact h.dfr, by unfold Boxed; rw [d.heap]; exact h.fin, by unfold Boxed; rw [d.heap]; exact h.b, h.at_, d.below h.bel⟩

/-- One round: the place behind the number is written. -/
theorem SInv.next {w : World} {xs : List Int} {ao : Option Addr} {n cap : Nat} {r : LoopState → Option Code → Loop} {p k : Nat} {W : World} (h : SInv w xs ao n cap r p W) (hk : soundG xs p = soundG xs (p + k)) (v : Int) (hv : v = (p : Int) + (k : Int)) :
    ((W.putObj (w.heap.size + 3) (.loop (r .busy none))).setCell ⟨w.heap.size, 0, none⟩ (.int .i64 v)).heap[w.heap.size + 3]? = some (.loop (r .busy none)) ∧
    SInv w xs ao n cap r (p + k) (((W.putObj (w.heap.size + 3) (.loop (r .busy none))).setCell ⟨w.heap.size, 0, none⟩ (.int .i64 v)).putObj (w.heap.size + 3) (.loop (r .ready none))) := by
  have hv' : v = ((p + k : Nat) : Int) := by rw [hv]; simp
  subst hv'
  have hlt : w.heap.size + 3 < W.heap.size := (Array.getElem?_eq_some_iff.1 h.loop).1
  have h1 : ((W.putObj (w.heap.size + 3) (.loop (r .busy none))).setCell ⟨w.heap.size, 0, none⟩ (.int .i64 ((p + k : Nat) : Int))).heap[w.heap.size + 3]? = some (.loop (r .busy none)) := by
    rw [Below.heap_setCell _ _ _ _ (by simp)]; exact World.putObj_heap_same hlt
  have hlt2 := (Array.getElem?_eq_some_iff.1 h1).1
  have f1 := (h.fin.kept (grownBy_putObj' W (w.heap.size + 3) (.loop (r .busy none))) (by simp)).set (.int .i64 ((p + k : Nat) : Int))
  have b1 := (h.b.kept (grownBy_putObj' W (w.heap.size + 3) (.loop (r .busy none))) (by simp)).other (B' := w.heap.size) (by omega) (.int .i64 ((p + k : Nat) : Int))
  refine ⟨h1, World.putObj_heap_same hlt2, ?_, f1.kept (grownBy_putObj' _ _ _) (by simp), b1.kept (grownBy_putObj' _ _ _) (by simp), h.at_.trans hk, ?_⟩
  · rw [World.putObj_heap_other (by omega), Below.heap_setCell _ _ _ _ (by simp), World.putObj_heap_other (by omega)]
    exact h.dfr
  · refine (((h.bel.grown (grownBy_putObj' W _ _) h.bel.size (by intro k e; cases e; omega)).setCell (Nat.le_refl _) _)).grown (grownBy_putObj' _ _ _) ?_ (by intro k e; cases e; omega)
    omega

end Go.Proofs.YtklchpdpooikdaaGreatDoor

namespace Go.Proofs.YtklchpdpooikdaaGreatDoor
open Go.RowKit Go.IntWalk

/-- The two arcs that the first number stands for. -/
def firstS (n : Int) : List Int := if n < 40 then [0, n] else if n < 80 then [1, n - 40] else [2, n - 80]

/-- Behind the arcs acc, from the place p on; no more than so many numbers. -/
def decF (xs : List Int) : Nat → List Int → Nat → List Int × Int
  | 0, acc, _ => (acc, 0)
  | f + 1, acc, p =>
    if p < xs.length then
      if acc.length = 20 then ([], 32)
      else if (nextS (xs.drop p)).2.2 = 0 then decF xs f (acc ++ [(nextS (xs.drop p)).1]) (p + (nextS (xs.drop p)).2.1)
      else ([], (nextS (xs.drop p)).2.2)
    else (acc, 0)
def decG (xs : List Int) (acc : List Int) (p : Nat) : List Int × Int := decF xs (xs.length - p) acc p
def decS (xs : List Int) : List Int × Int := if (nextS xs).2.2 = 0 then decG xs (firstS (nextS xs).1) (nextS xs).2.1 else ([], (nextS xs).2.2)

theorem decF_any (xs : List Int) : ∀ (f g : Nat) (acc : List Int) (p : Nat), xs.length - p ≤ f → xs.length - p ≤ g → decF xs f acc p = decF xs g acc p := by
  intro f
  induction f with
  | zero =>
    intro g acc p h1 _
    cases g with
    | zero => rfl
    | succ g => simp only [decF]; rw [if_neg (by omega)]
  | succ f ih =>
    intro g acc p h1 h2
    cases g with
    | zero => simp only [decF]; rw [if_neg (by omega)]
    | succ g =>
      simp only [decF]
      split
      · split
        · rfl
        · split
          · rename_i hp _ he
            have := nextS_in (xs.drop p) he
            exact ih g _ _ (by omega) (by omega)
          · rfl
      · rfl

theorem decG_end (xs acc : List Int) (p : Nat) (h : ¬ p < xs.length) : decG xs acc p = (acc, 0) := by
  rw [decG, decF_any xs _ (xs.length - p + 1) acc p (Nat.le_refl _) (by omega), decF, if_neg h]
theorem decG_many (xs acc : List Int) (p : Nat) (h : p < xs.length) (ha : acc.length = 20) : decG xs acc p = ([], 32) := by
  rw [decG, decF_any xs _ (xs.length - p + 1) acc p (Nat.le_refl _) (by omega), decF, if_pos h, if_pos ha]
theorem decG_bad (xs acc : List Int) (p : Nat) (h : p < xs.length) (ha : acc.length ≠ 20) (he : (nextS (xs.drop p)).2.2 ≠ 0) : decG xs acc p = ([], (nextS (xs.drop p)).2.2) := by
  rw [decG, decF_any xs _ (xs.length - p + 1) acc p (Nat.le_refl _) (by omega), decF, if_pos h, if_neg ha, if_neg he]
theorem decG_next (xs acc : List Int) (p : Nat) (h : p < xs.length) (ha : acc.length ≠ 20) (he : (nextS (xs.drop p)).2.2 = 0) : decG xs acc p = decG xs (acc ++ [(nextS (xs.drop p)).1]) (p + (nextS (xs.drop p)).2.1) := by
  have := nextS_in (xs.drop p) he
  rw [decG, decF_any xs _ (xs.length - p + 1) acc p (Nat.le_refl _) (by omega), decF, if_pos h, if_neg ha, if_pos he, decG]
  exact decF_any xs _ _ _ _ (by omega) (by omega)

theorem firstS_len (n : Int) : (firstS n).length = 2 := by
  unfold firstS
  split
  · rfl
  · split <;> rfl

end Go.Proofs.YtklchpdpooikdaaGreatDoor

namespace Go.Proofs.YtklchpdpooikdaaGreatDoor
open Go.RowKit Go.Shelf Go.IntWalk

theorem wpListIn_appIN {F : Fence} {n : Nat} {ops : Array Oper} {rest : List Oper} {o : Oper} {a : Act} {Q : Exit → Act → World → Prop} (w : World) (hgd : o.guard = none) (s x : Operand)
    (ho : o.op = .call { callee := .builtin .append, args := #[s, x], argTypes := #[114, 114] })
    (base : Nat) (v : Value) (xs : List Int) (hs : a.eval s = v) (hown : OwnI w base v xs)
    (ad : Addr) (m c : Nat) (ys : List Int) (hx : a.eval x = .slice (some ad) m c) (hsrc : SrcI w (some ad) m c ys)
    (t : Nat) (ht : (xs ++ ys).length = t) (hne : ys ≠ []) (hb : t ≤ 17592186044416) (hbase : base ≤ w.heap.size)
    (h : ∀ g c' w', OwnI w' base (.slice (some ⟨g, 0, none⟩) t c') (xs ++ ys) → base ≤ g → g < w'.heap.size → t ≤ c' → c' ≤ maxLen → w.grownBy w' v.ownBlock →
      wpListIn F n Tryz.prog ops Q rest (a.put o.dst (.slice (some ⟨g, 0, none⟩) t c')) w') :
    wpListIn F n Tryz.prog ops Q (o :: rest) a w := by
  obtain ⟨i0, hi, hz0, hz1, hz2⟩ := info_parts Tryz.infoI
  obtain ⟨hlen, hcap, hmax, hnil, hrd, hbyt⟩ := hsrc
  have ht' : xs.length + m = t := by rw [← ht, List.length_append, hlen]
  refine wpListIn_append_own w hgd s x 114 ho base 3 i0 (.int .i64 0) 1 8 Tryz.underlying114 hi hz0 hz1 hz2 rfl (by decide) v _ _ hs hown ad m c (ys.map (Value.int .i64)) hx (by simpa using hlen) ?_ (ints_one _ _) (by unfold maxLen; omega) (by omega) hbase ?_
  · intro j u hj
    have hjl : j < ys.length := by
      rcases Nat.lt_or_ge j ys.length with h | h
      · exact h
      · simp [List.getElem?_eq_none (show (ys.map (Value.int .i64)).length ≤ j by simpa using h)] at hj
    obtain ⟨b, off, he, hc⟩ := hrd hne
    cases he
    rw [add_none, hc j hjl]
    simp [List.getElem?_eq_getElem hjl] at hj
    subst hj
    simp [List.getD, List.getElem?_eq_getElem hjl]
  · intro v' w' h1 h2 h3
    have h1' : OwnI w' base v' (xs ++ ys) := by
      unfold OwnI
      have e1 : (xs ++ ys).length = xs.length + m := by simp [hlen]
      rw [e1]
      simpa using h1
    rcases h1'.split with ⟨hv, hx'⟩ | ⟨g, c', hv, hb', hl', hc', hm'⟩
    · simp at hx'
      exact absurd hx'.2 hne
    · rw [ht] at hv hc'
      subst hv
      exact h g c' w' h1' hb' hl' hc' hm' h2

theorem OwnI.block {W : World} {base : Nat} {v : Value} {acc : List Int} (h : OwnI W base v acc) : ∀ k, v.ownBlock = some k → ∃ c f, W.heap[k]? = some (.cells c 3 f) := by
  intro k hk
  obtain ⟨_, h⟩ := h
  rcases h with ⟨rfl, _⟩ | ⟨g, cap, cur, rfl, _, hh, _⟩
  · simp [Value.ownBlock] at hk
  · simp [Value.ownBlock] at hk
    subst hk
    exact ⟨_, _, hh⟩

/-- Memory while Decode goes over the numbers. -/
structure DSt (w : World) (ao : Option Addr) (n cap : Nat) (lp : Loop) (acc : List Int) (e : Int) (v : Value) (W : World) : Prop where
  loop : W.heap[w.heap.size + 5]? = some (.loop lp)
  dfr : W.heap[w.heap.size + 4]? = some (.deferred (some []))
  b : Boxed W w.heap.size 64 (.slice ao n cap)
  arcs : Boxed W (w.heap.size + 1) 114 v
  er : Boxed W (w.heap.size + 2) 24 (.int .i64 e)
  b2 : Boxed W (w.heap.size + 3) 64 (.slice ao n cap)
  row : OwnI W w.heap.size v acc
  bel : Below w.heap.size w W

theorem DSt.drawn {w : World} {ao : Option Addr} {n cap : Nat} {lp : Loop} {acc : List Int} {e : Int} {v : Value} {W W' : World} (h : DSt w ao n cap lp acc e v W) (d : Drawn W W') : DSt w ao n cap lp acc e v W' :=
  ⟨by rw [d.heap]; exact h.loop, by rw [d.heap]; exact h.dfr, by unfold Boxed; rw [d.heap]; exact h.b, by unfold Boxed; rw [d.heap]; exact h.arcs, by unfold Boxed; rw [d.heap]; exact h.er, by unfold Boxed; rw [d.heap]; exact h.b2, h.row.heap d.heap, d.below h.bel⟩

/-- The record is turned. -/
theorem DSt.put {w : World} {ao : Option Addr} {n cap : Nat} {lp : Loop} {acc : List Int} {e : Int} {v : Value} {W : World} (h : DSt w ao n cap lp acc e v W) (lp' : Loop) : DSt w ao n cap lp' acc e v (W.putObj (w.heap.size + 5) (.loop lp')) := by
  have hlt : w.heap.size + 5 < W.heap.size := (Array.getElem?_eq_some_iff.1 h.loop).1
  have g := grownBy_putObj' W (w.heap.size + 5) (.loop lp')
  refine ⟨World.putObj_heap_same hlt, (World.putObj_heap_other (by omega)).trans h.dfr, h.b.kept g (by simp), h.arcs.kept g (by simp), h.er.kept g (by simp), h.b2.kept g (by simp), h.row.kept g (.inr fun he => ?_), h.bel.grown g h.bel.size (by intro k e; cases e; omega)⟩
  obtain ⟨c, f, hc⟩ := h.row.block _ he
  rw [h.loop] at hc
  cases hc

/-- Numbers are appended, and the variable is written. -/
theorem DSt.append {w : World} {ao : Option Addr} {n cap : Nat} {lp : Loop} {acc acc' : List Int} {e : Int} {v v' : Value} {W w2 : World} (h : DSt w ao n cap lp acc e v W) (o : Obj) (hg : (W.alloc o).grownBy w2 v.ownBlock) (ho : OwnI w2 w.heap.size v' acc') :
    DSt w ao n cap lp acc' e v' (w2.setCell ⟨w.heap.size + 1, 0, none⟩ v') := by
  have nb : ∀ (k : Nat) (x : Obj), W.heap[k]? = some x → (∀ c f, x ≠ .cells c 3 f) → w2.heap[k]? = some x := by
    intro k x hx hn
    have hlt := (Array.getElem?_eq_some_iff.1 hx).1
    rw [hg.block k (by simp; omega) (fun he => ?_), Below.heap_alloc _ _ _ hlt]
    · exact hx
    · obtain ⟨c, f, hc⟩ := h.row.block k he.symm
      rw [hx] at hc
      cases hc
      exact hn _ _ rfl
  have nx : ∀ (B : Nat) (t : TypeId) (u : Value), t ≠ 3 → Boxed W B t u → Boxed w2 B t u := fun B t u ht hb => nb B _ hb (by intro c f hc; cases hc; exact ht rfl)
  have a2 := nx _ _ _ (by decide) h.arcs
  refine ⟨?_, ?_, (nx _ _ _ (by decide) h.b).other (by omega) _, a2.set _, (nx _ _ _ (by decide) h.er).other (by omega) _, (nx _ _ _ (by decide) h.b2).other (by omega) _, ho.kept (grownBy_setCell' w2 (w.heap.size + 1) v') (.inr fun he => ?_), ?_⟩
  · rw [Below.heap_setCell _ _ _ _ (by simp)]; exact nb _ _ h.loop (by intro c f hc; cases hc)
  · rw [Below.heap_setCell _ _ _ _ (by simp)]; exact nb _ _ h.dfr (by intro c f hc; cases hc)
  · obtain ⟨c, f, hc⟩ := ho.block _ he
    have h3 : w2.heap[w.heap.size + 1]? = some (.cells #[v] 114 (0, 0)) := a2
    rw [h3] at hc
    cases hc
  · refine ((h.bel.alloc h.bel.size _).grown hg (by have := h.bel.size; simp; omega) (fun k hk => (h.row.lt k hk).1)).setCell (by simp) _

end Go.Proofs.YtklchpdpooikdaaGreatDoor

namespace Go.Proofs.YtklchpdpooikdaaGreatDoor
open Go.RowKit Go.Shelf Go.IntWalk
attribute [local go_sem] Oper.semAt_some

/-- Both results are written. -/
theorem DSt.fail {w : World} {ao : Option Addr} {n cap : Nat} {lp : Loop} {acc : List Int} {e : Int} {v : Value} {W : World} (h : DSt w ao n cap lp acc e v W) (x : Int) :
    DSt w ao n cap lp [] x (.slice none 0 0) ((W.setCell ⟨w.heap.size + 1, 0, none⟩ (.slice none 0 0)).setCell ⟨w.heap.size + 2, 0, none⟩ (.int .i64 x)) := by
  refine ⟨?_, ?_, (h.b.other (by omega) _).other (by omega) _, (h.arcs.set _).other (by omega) _, (h.er.other (by omega) _).set _, (h.b2.other (by omega) _).other (by omega) _, OwnI.nil _ _, (h.bel.setCell (by simp) _).setCell (by simp) _⟩
  · rw [Below.heap_setCell _ _ _ _ (by simp), Below.heap_setCell _ _ _ _ (by simp)]; exact h.loop
  · rw [Below.heap_setCell _ _ _ _ (by simp), Below.heap_setCell _ _ _ _ (by simp)]; exact h.dfr

/-- The block of deferred calls is shut. -/
theorem DSt.shut {w : World} {ao : Option Addr} {n cap : Nat} {lp : Loop} {acc : List Int} {e : Int} {v : Value} {W : World} (h : DSt w ao n cap lp acc e v W) :
    Boxed (W.putObj (w.heap.size + 4) (.deferred none)) (w.heap.size + 1) 114 v ∧ Boxed (W.putObj (w.heap.size + 4) (.deferred none)) (w.heap.size + 2) 24 (.int .i64 e) ∧ OwnI (W.putObj (w.heap.size + 4) (.deferred none)) w.heap.size v acc ∧ Below w.heap.size w (W.putObj (w.heap.size + 4) (.deferred none)) := by
  have g := grownBy_putObj' W (w.heap.size + 4) (.deferred none)
  refine ⟨h.arcs.kept g (by simp), h.er.kept g (by simp), h.row.kept g (.inr fun he => ?_), h.bel.grown g h.bel.size (by intro k e; cases e; omega)⟩
  obtain ⟨c, f, hc⟩ := h.row.block _ he
  rw [h.dfr] at hc
  cases hc

set_option maxRecDepth 100000 in
/-- How Decode is left: the loop's mark, then the deferred function; what it catches is the answer. -/
theorem dec_leave (w : World) (ao : Option Addr) (n cap : Nat) (lp : Loop) (acc : List Int) (e : Int) (v : Value) (W : World) (tmps : Array Value) (u : FrameMode) (res : List Int × Int)
    (ht1 : tmps[2]? = some (.pointer (some ⟨w.heap.size + 1, 0, none⟩))) (ht2 : tmps[3]? = some (.pointer (some ⟨w.heap.size + 1 + 1, 0, none⟩)))
    (hD : DSt w ao n cap lp acc e v W) (hv : ∃ ao' L c', v = .slice ao' L c') (hu : (u = .returning ∧ res = (acc, e)) ∨ (∃ x, u = .panicking (errP x) ∧ res = ([], x))) :
    LeavesInM Fence.wide 4 Tryz.prog Tryz.f150 tmps (fun e w' => ∃ ao' L c', e = .returned (.tuple #[.slice ao' L c', .int .i64 res.2]) ∧ OwnI w' w.heap.size (.slice ao' L c') res.1 ∧ Below w.heap.size w w')
      [{ target := .collected (w.heap.size + 4), args := #[] }, { target := .fn (.func 168) #[.pointer (some ⟨w.heap.size + 1, 0, none⟩), .pointer (some ⟨w.heap.size + 1 + 1, 0, none⟩)], args := #[] }] u W := by
  have hru : u ≠ .run := by rcases hu with ⟨rfl, _⟩ | ⟨x, rfl, _⟩ <;> simp
  obtain ⟨a1, e1, o1, b1⟩ := hD.shut
  refine ⟨hru, .inl ⟨_, _, rfl, run_takeDeferred hD.dfr, hru, .inr ⟨by simp [Fence.wide], .func 168, _, 168, #[.pointer (some ⟨w.heap.size + 1, 0, none⟩), .pointer (some ⟨w.heap.size + 1 + 1, 0, none⟩)], rfl, ?_, fun _ _ => trivial, ?_⟩⟩⟩
  · simp [invoke, go_sem]
  · rcases hu with ⟨rfl, rfl⟩ | ⟨x, rfl, rfl⟩
    · refine (decode1_idle 3 _ _ _).mono ?_
      rintro e' u' w' ⟨rfl, rfl, rfl⟩
      obtain ⟨ao', L, c', rfl⟩ := hv
      have c1 := a1.cell
      have c2 := e1.cell
      exact ⟨.tuple #[.slice ao' L c', .int .i64 e], by simp [results, Tryz.results150, go_sem, ht1, ht2, c1, c2, Array.getD_eq_getD_getElem?], _, _, _, rfl, o1, b1⟩
    · have e2 := e1.other (B' := w.heap.size + 1) (by omega) (.slice none 0 0)
      refine (decode1_caught 3 x _ _ _ _ _ a1.cell a1.frozen e2.cell e2.frozen).mono ?_
      rintro e' u' w' ⟨rfl, hu', rfl⟩
      simp only [hu']
      have c1 := ((a1.set (.slice none 0 0)).other (B' := w.heap.size + 2) (by omega) (.int .i64 x)).cell
      have c2 := (e2.set (.int .i64 x)).cell
      exact ⟨.tuple #[.slice none 0 0, .int .i64 x], by simp [results, Tryz.results150, go_sem, ht1, ht2, c1, c2, Array.getD_eq_getD_getElem?], none, 0, 0, rfl, OwnI.nil _ _, (b1.setCell (by simp) _).setCell (by simp) _⟩

end Go.Proofs.YtklchpdpooikdaaGreatDoor

namespace Go.Proofs.YtklchpdpooikdaaGreatDoor
open Go.RowKit

theorem wpIn_inRound {F : Fence} {n : Nat} {P : Program} {o : Oper} {a : Act} {w : World} {K : Act → World → Prop} {Q : Exit → Act → World → Prop} (l : Nat) (hro : F.round = none) (hd : ∀ c, o.op ≠ .defer c)
    (h : o.wpIn F n P a w K Q) : o.wpIn (F.inRound l) n P a w K Q := by
  unfold Oper.wpIn at h ⊢
  refine ⟨h.1, ?_⟩
  have h2 := h.2
  rw [hro, Oper.semAt_none] at h2
  have e : Oper.semAt (F.inRound l).round a.eval o = execOp a.eval o := Oper.semAt_some l a.eval o hd
  rw [e]
  generalize (execOp a.eval o).run P w = r at h2
  cases r with
  | ok x w' => cases x <;> exact h2
  | halt x w' => cases x <;> exact h2

theorem wpAnyIn_inRound {F : Fence} {n : Nat} {P : Program} {md : Region.Mode} {ops : Array Oper} {Q : Exit → Act → World → Prop} (l : Nat) (hro : F.round = none) (hd : ∀ (i : Nat) o, ops[i]? = some o → ∀ c, o.op ≠ .defer c) :
    ∀ (fuel : Nat) (listed : Array Bool) (a : Act) (w : World), wpAnyIn F n P md ops Q fuel listed a w → wpAnyIn (F.inRound l) n P md ops Q fuel listed a w
  | 0, _, _, _, h => h
  | fuel + 1, listed, a, w, h => by
    refine ⟨h.1, fun i hi => ?_⟩
    have h2 := h.2 i hi
    unfold wpOpIn at h2 ⊢
    cases ho : ops[i]? with
    | none =>
      simp only [ho] at h2 ⊢
      exact wpAnyIn_inRound l hro hd fuel _ a w h2
    | some o =>
      simp only [ho] at h2 ⊢
      split
      · rename_i hw
        simp only [hw, if_true] at h2
        exact wpIn_inRound l hro (hd i o ho) (Oper.wpIn_mono (fun a' w' h' => wpAnyIn_inRound l hro hd fuel _ a' w' h') h2)
      · rename_i hw
        simp only [hw] at h2
        exact ⟨h2.1, wpAnyIn_inRound l hro hd fuel _ _ _ h2.2⟩

theorem wpIn_region_quiet_round {F : Fence} {n : Nat} {P : Program} {id l : Nat} {Q : Exit → Act → World → Prop} {a : Act} {w : World} {ops : List Oper} (hro : F.round = none) (hd : ∀ (i : Nat) o, ops.toArray[i]? = some o → ∀ c, o.op ≠ .defer c)
    (hm : P.follows .mixedOrders = true) (hB : Region.lexB .any ops.toArray = true)
    (h : wpQuietIn F n P ops.toArray (fun w' => ∃ n, w' = w.drewN n) (fun a' => ∀ w', (∃ n, w' = w.drewN n) → Q .normal a' w') ops a) : (Code.region id ops.toArray true).wpIn (F.inRound l) n P Q a w := by
  simp only [Region.lexB, Bool.and_eq_true] at hB
  refine wpIn_region_any hm (wpAnyIn_inRound l hro hd _ _ _ _ (wpAnyIn_of_quiet (C := fun w' => ∃ n, w' = w.drewN n) (Q := fun a' => ∀ w', (∃ n, w' = w.drewN n) → Q .normal a' w') hro (fun _ w' hw' h => h w' hw') _ _ _ _ ⟨1, rfl⟩ ?_))
  have := wpAnyQIn_lex (F := F) (n := n) (C := fun w' => ∃ n, w' = w.drewN n) (md := .any) hB.1 ops 0 (Array.replicate ops.toArray.size false) a (by simp) (by simpa using hB.2) h
  simpa using this

def noDefer (o : Oper) : Bool := match o.op with
  | .defer _ => false
  | _ => true

/-- The same, that no operation defers told by a test. -/
theorem wpIn_region_quiet_roundB {F : Fence} {n : Nat} {P : Program} {id l : Nat} {Q : Exit → Act → World → Prop} {a : Act} {w : World} {ops : List Oper} (hro : F.round = none) (hd : ops.all noDefer = true)
    (hm : P.follows .mixedOrders = true) (hB : Region.lexB .any ops.toArray = true)
    (h : wpQuietIn F n P ops.toArray (fun w' => ∃ n, w' = w.drewN n) (fun a' => ∀ w', (∃ n, w' = w.drewN n) → Q .normal a' w') ops a) : (Code.region id ops.toArray true).wpIn (F.inRound l) n P Q a w :=
  wpIn_region_quiet_round hro (fun i o ho c hc => by
    have h1 : o ∈ ops := by
      rw [List.getElem?_toArray] at ho
      exact List.mem_of_getElem? ho
    have h2 := List.all_eq_true.1 hd o h1
    unfold noDefer at h2
    rw [hc] at h2
    exact Bool.noConfusion h2) hm hB h

theorem setCell_qN (w : World) (n : Nat) (a : Addr) (v : Value) : (w.drewN n).setCell a v = (w.setCell a v).drewN n := rfl
theorem alloc_qN (w : World) (n : Nat) (o : Obj) : (w.drewN n).alloc o = (w.alloc o).drewN n := rfl

end Go.Proofs.YtklchpdpooikdaaGreatDoor
