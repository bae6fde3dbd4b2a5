/-
  bytes.Clone copies bytes into new memory; der's span.element answers the element that a span tells, its content copied.
  der.Take and der.One answer as the plain function of the bytes says, the content copied into new memory.
  The iterator that der.spans answers: it tells the places at which elements begin, one behind the other, up to the first that is wrong.
  What lies about der.All's loop: its variables, what a round does to them.
  der.Each: a function over a copy of the bytes.
-/
import Derived.Test.YtklchpdpooikdaaGreatDoorXCloneToFindIt
import Derived.Test.YtklchpdpooikdaaGreatDoorXItsToNextS
import Derived.WalkSpells
import Derived.Deep.RegionHeld3
import Derived.RangeFuncNested
import Derived.RangeFuncBound
import Derived.RangeFuncCalls
import Derived.RangeFuncLeaves
import Derived.Shelf.Abstract
import Derived.Shelf.RegionOpen
import Derived.WalkKit
import Derived.OwnWalkIn
import Derived.TacticsInMore
import Derived.LoopNIn
import Derived.LoopIn
import Derived.Maps.AppendAt
import Derived.RangeFuncBox
namespace Go.Proofs.YtklchpdpooikdaaGreatDoor
open Go.RowKit Go.IntWalk

set_option maxRecDepth 100000 in
set_option maxHeartbeats 1000000 in
theorem cloneE_any (ao : Option Addr) (n cap : Nat) (xs : List Int) (w : World) (hs : Src w ao n cap xs) (hN : n ≤ 140737488355328) :
    Calls Tryz.prog 146 #[.slice ao n cap] w fun e w' => ∃ ao' c', e = .returned (.slice ao' n c') ∧ OwnB w' w.heap.size (.slice ao' n c') xs ∧ Below w.heap.size w w' := by
  have q22 : ∀ (w : World) (a : Option Addr) (n c n' c' : Nat), (binOp .eql 64 (.slice a n c) (.slice none n' c')).run Tryz.prog w = .ok (.bool a.isNone) w :=
    fun w a n c n' c' => Lib.run_eql_slice_nil w _ _ a n c n' c' Tryz.underlying64
  have hl := hide hs.hlen
  cases ao with
  | none =>
    obtain ⟨rfl, rfl⟩ := hs.hnil rfl
    obtain rfl : xs = [] := List.eq_nil_of_length_eq_zero hl.out
    go_enter Tryz.func146, Tryz.ntmps146
    go_wp2
    go_ret
    exact ⟨_, _, rfl, OwnB.nil _ _, Below.refl _ _⟩
  | some ad =>
    go_enter Tryz.func146, Tryz.ntmps146
    go_wp2_with (at_builtin; refine wpList_appN _ rfl (.tmp 5) (.tmp 6) rfl w.heap.size (.slice (some ⟨w.heap.size, 0, none⟩) 0 0) [] rfl (OwnB.lit _ [] _ 0 rfl rfl (Nat.le_refl _) (by decide)) (some ad) n cap xs rfl (hs.alloc _) n (by simpa using hl.out) (.inl (by simp)) (by omega) (by simp) ?_; intro g1 c1 w1 ho1 hb1 hl1 hc1 hm1 hg1)
    go_ret
    exact ⟨_, _, rfl, ho1, ((Below.refl _ _).alloc (Nat.le_refl _) _).grown hg1 (by simp) (by intro k hk; cases hk; exact Nat.le_refl _)⟩

set_option maxRecDepth 100000 in
set_option maxHeartbeats 2000000 in
theorem element_any (tag : Int) (l h : Nat) (ao : Option Addr) (n cap : Nat) (xs : List Int) (w : World) (hs : Src w ao n cap xs) (hN : (n : Int) ≤ 140737488355328) (hlh : l ≤ h) (hhn : h ≤ n) :
    Calls Tryz.prog 145 #[.agg #[.int .i64 tag, .int .i64 l, .int .i64 h], .slice ao n cap] w fun e w' =>
      ∃ ao' c', e = .returned (.agg #[.int .i64 tag, .slice ao' (h - l) c']) ∧ OwnB w' w.heap.size (.slice ao' (h - l) c') ((xs.take h).drop l) ∧ Below w.heap.size w w' := by
  have hnc := hs.hcap
  have hs1 := hs.cut l h hlh hhn
  have sl := fun W => slice_lh W ao n cap l h l h rfl rfl hlh (by omega)
  generalize cutA ao cap l = A at hs1 sl
  generalize (xs.take h).drop l = ys at hs1 ⊢
  go_enter Tryz.func145, Tryz.ntmps145
  go_wp2
  go_region_held3 (fun W => W.cell? ⟨w.heap.size, 0, none⟩ = some (.int .i64 tag) ∧ W.cell? ⟨w.heap.size, 1, none⟩ = some (.int .i64 l) ∧ W.cell? ⟨w.heap.size, 2, none⟩ = some (.int .i64 h)) (go_keep) (first | (go_at_call 146; refine (cloneE_any _ _ _ ys _ (by exact ((hs1.alloc _).alloc _).drewN 1) (by omega)).mono ?_; rintro e w1 ⟨ao', c', rfl, hv, hb1⟩; obtain ⟨hc, hf⟩ := bcell hb1; have k0 : w1.cell? ⟨w.heap.size, 0, none⟩ = some (.int .i64 tag) := (by rw [hc _ _ (by simp; omega)]; simp); have k1 : w1.cell? ⟨w.heap.size, 1, none⟩ = some (.int .i64 l) := (by rw [hc _ _ (by simp; omega)]; simp); have k2 : w1.cell? ⟨w.heap.size, 2, none⟩ = some (.int .i64 h) := (by rw [hc _ _ (by simp; omega)]; simp); have hz : w.heap.size + 1 < w1.heap.size := by (have := hb1.size; simp at this; omega)))
  go_wp2
  refine bodyPost_ret (v := .agg #[.int .i64 tag, .slice ao' (h - l) c']) (by simp [results, Tryz.results145, go_sem, hc]) rfl ⟨ao', c', rfl, ?_, ?_⟩
  · exact ((hv.setBelow (by simp) _).setBelow (by simp) _).rebase (by simp; omega)
  · exact ((((((Below.refl _ _).alloc (Nat.le_refl _) _).alloc (by simp) _).drew).trans (hb1.mono (by simp; omega))).setCell (by simp) _).setCell (by simp) _

end Go.Proofs.YtklchpdpooikdaaGreatDoor

namespace Go.Proofs.YtklchpdpooikdaaGreatDoor
open Go.RowKit Go.IntWalk

theorem takeLenS_size (xs : List Int) (h : (takeLenS xs).2.2 = 0) : 1 ≤ (takeLenS xs).2.1 := by
  unfold takeLenS at *
  split at h
  · rw [if_pos (by assumption)]; simp
  · rename_i h1
    rw [if_neg h1] 
    split at h
    · simp at h
    · rename_i h2
      rw [if_neg h2]
      split at h
      · simp at h
      · rename_i h3
        rw [if_neg h3]
        split at h
        · simp at h
        · rename_i h4
          rw [if_neg h4]
          split at h
          · simp at h
          · rename_i h5
            rw [if_neg h5]
            simp only []
            omega

theorem findS_cases (xs : List Int) (hb : ∀ x ∈ xs, 0 ≤ x ∧ x < 256) :
    (∃ err : Int, err ≠ 0 ∧ 0 < err ∧ err ≤ 12 ∧ findS xs = (0, 0, 0, err)) ∨
    ∃ (l h : Nat), findS xs = (xs.getD 0 0, (l : Int), (h : Int), 0) ∧ 2 ≤ l ∧ l ≤ 5 ∧ l ≤ h ∧ h ≤ xs.length ∧ h - l < 16777216 := by
  have hbd := takeLenS_bd (xs.drop 1) (fun x hx => hb x (List.mem_of_mem_drop hx))
  have hsz := takeLenS_size (xs.drop 1)
  unfold findS
  by_cases h1 : xs.length = 0
  · rw [if_pos h1]; exact .inl ⟨10, by decide, by decide, by decide, rfl⟩
  · rw [if_neg h1]
    by_cases h2 : isTagB (xs.getD 0 0) = false
    · rw [if_pos h2]; exact .inl ⟨11, by decide, by decide, by decide, rfl⟩
    · rw [if_neg h2]
      by_cases h3 : xs.length = 1
      · rw [if_pos h3]; exact .inl ⟨10, by decide, by decide, by decide, rfl⟩
      · rw [if_neg h3]
        by_cases h4 : (takeLenS (xs.drop 1)).2.2 ≠ 0
        · rw [if_pos h4]; exact .inl ⟨_, h4, by omega, by omega, rfl⟩
        · rw [if_neg h4]
          have hsz := hsz (by omega)
          by_cases h5 : (xs.length : Int) - (1 + (takeLenS (xs.drop 1)).2.1) < (takeLenS (xs.drop 1)).1
          · rw [if_pos h5]; exact .inl ⟨10, by decide, by decide, by decide, rfl⟩
          · rw [if_neg h5]
            refine .inr ⟨(1 + (takeLenS (xs.drop 1)).2.1).toNat, (1 + (takeLenS (xs.drop 1)).2.1 + (takeLenS (xs.drop 1)).1).toNat, ?_, by omega, by omega, by omega, by omega, by omega⟩
            rw [Int.toNat_of_nonneg (by omega), Int.toNat_of_nonneg (by omega)]

/-- The content of the element with which bytes begin; none where there is none. -/
def contS (xs : List Int) : List Int := (xs.take (findS xs).2.2.1.toNat).drop (findS xs).2.1.toNat

set_option maxRecDepth 100000 in
set_option maxHeartbeats 2000000 in
theorem take_any (ao : Option Addr) (n cap : Nat) (xs : List Int) (w : World) (hs : Src w ao n cap xs) (hN : (n : Int) ≤ 140737488355328) :
    Calls Tryz.prog 149 #[.slice ao n cap] w fun e w' => ∃ ao' m c',
      e = .returned (.tuple #[.agg #[.int .i64 (findS xs).1, .slice ao' m c'], .int .i64 (findS xs).2.2.1, .int .i64 (findS xs).2.2.2]) ∧ OwnB w' w.heap.size (.slice ao' m c') (contS xs) ∧ Below w.heap.size w w' := by
  have hl := hs.hlen
  rcases findS_cases xs hs.hbyt with ⟨err, h1, h2, h3, he⟩ | ⟨l, h, he, h1, h2, h3, h4, h5⟩
  · have hcs : contS xs = [] := by unfold contS; rw [he]; simp
    have HE := hide he
    have HC := hide hcs
    have h1' : (err != 0) = true := by simpa using h1
    clear he hcs h1 hl
    go_enter Tryz.func149, Tryz.ntmps149
    go_wp2_with (go_at_call 144; refine (find_any _ _ _ xs _ (by exact hs.alloc _) hN).mono ?_; rintro e w1 ⟨rfl, hb1⟩; rw [HE.out]; unfold spanV; obtain ⟨hc, hf⟩ := bcell hb1; have hz : w.heap.size < w1.heap.size := by (have := hb1.size; simp at this; omega))
    refine bodyPost_ret (v := .tuple #[.agg #[.int .i64 0, .slice none 0 0], .int .i64 0, .int .i64 err]) (by simp [results, Tryz.results149, go_sem, hc, hz]) rfl ⟨none, 0, 0, by rw [HE.out], by rw [HC.out]; exact OwnB.nil _ _, ?_⟩
    exact (((((Below.refl _ _).alloc (Nat.le_refl _) _).trans (hb1.mono (by simp))).setCell (by simp) _).setCell (by simp) _).alloc (by simp; omega) _
  · have hcs : contS xs = (xs.take h).drop l := by unfold contS; rw [he]; simp
    have HE := hide he
    have HC := hide hcs
    rw [hl] at h4
    clear hcs hl
    generalize xs.getD 0 0 = t at he HE
    clear he
    go_enter Tryz.func149, Tryz.ntmps149
    go_wp2_with (go_at_call 144; refine (find_any _ _ _ xs _ (by exact hs.alloc _) hN).mono ?_; rintro e w1 ⟨rfl, hb1⟩; rw [HE.out]; unfold spanV; obtain ⟨hc, hf⟩ := bcell hb1; have hz : w.heap.size < w1.heap.size := by (have := hb1.size; simp at this; omega))
    have hne : ¬ w.heap.size = w1.heap.size := by omega
    have hne' : ¬ w1.heap.size = w.heap.size := by omega
    have i0 : w1.cell? ⟨w.heap.size, 0, none⟩ = some (.int .i64 0) := by rw [hc _ _ (by simp)]; simp
    have i1 : w1.cell? ⟨w.heap.size, 1, none⟩ = some (.slice none 0 0) := by rw [hc _ _ (by simp)]; simp
    go_region_held3 (fun W => W.cell? ⟨w1.heap.size, 0, none⟩ = some (.int .i64 t) ∧ W.cell? ⟨w1.heap.size, 1, none⟩ = some (.int .i64 l) ∧ W.cell? ⟨w1.heap.size, 2, none⟩ = some (.int .i64 h)) (go_keep) (first | (go_at_call 145; refine (element_any _ l h _ _ _ xs _ (by exact (((hs.alloc _).below hb1).alloc _).drewN 1) hN h3 h4).mono ?_; rintro e w2 ⟨ao', c', rfl, hv, hb2⟩; obtain ⟨hc2, hf2⟩ := bcell hb2; have k0 : w2.cell? ⟨w1.heap.size, 0, none⟩ = some (.int .i64 t) := (by rw [hc2 _ _ (by simp)]; simp); have k1 : w2.cell? ⟨w1.heap.size, 1, none⟩ = some (.int .i64 l) := (by rw [hc2 _ _ (by simp)]; simp); have k2 : w2.cell? ⟨w1.heap.size, 2, none⟩ = some (.int .i64 h) := (by rw [hc2 _ _ (by simp)]; simp); have j0 : w2.cell? ⟨w.heap.size, 0, none⟩ = some (.int .i64 0) := (hc2 _ _ (by simp; omega)).trans ((World.cell?_alloc_lt _ _ _ hz).trans i0); have j1 : w2.cell? ⟨w.heap.size, 1, none⟩ = some (.slice none 0 0) := (hc2 _ _ (by simp; omega)).trans ((World.cell?_alloc_lt _ _ _ hz).trans i1); have hz2 : w1.heap.size < w2.heap.size := by (have := hb2.size; simp at this; omega)))
    go_wp2
    refine bodyPost_ret (v := .tuple #[.agg #[.int .i64 t, .slice ao' (h - l) c'], .int .i64 h, .int .i64 0]) (by simp [results, Tryz.results149, go_sem, j0, j1]) rfl ⟨ao', h - l, c', by rw [HE.out], ?_, ?_⟩
    · rw [HC.out]
      exact ((hv.setBelow (by simp; omega) _).setBelow (by simp; omega) _).rebase (by simp; omega)
    · exact (((((((Below.refl _ _).alloc (Nat.le_refl _) _).trans (hb1.mono (by simp))).alloc (by omega) _).drew).trans (hb2.mono (by simp; omega))).setCell (by simp) _).setCell (by simp) _

end Go.Proofs.YtklchpdpooikdaaGreatDoor

namespace Go.Proofs.YtklchpdpooikdaaGreatDoor
open Go.RowKit Go.Shelf Go.IntWalk
attribute [local go_sem] Oper.semAt_some

/-- The places at which elements begin, one behind the other from p on, up to the first that is wrong; no more than so many. -/
def placesF (xs : List Int) : Nat → Nat → List Nat
  | 0, _ => []
  | f + 1, p => if p < xs.length ∧ (findS (xs.drop p)).2.2.2 = 0 ∧ 0 < (findS (xs.drop p)).2.2.1 then p :: placesF xs f (p + (findS (xs.drop p)).2.2.1.toNat) else []
def placesS (xs : List Int) (p : Nat) : List Nat := placesF xs (xs.length - p) p

theorem placesF_any (xs : List Int) : ∀ (f g p : Nat), xs.length - p ≤ f → xs.length - p ≤ g → placesF xs f p = placesF xs g p := by
  intro f
  induction f with
  | zero =>
    intro g p h1 _
    cases g with
    | zero => rfl
    | succ g => simp only [placesF]; rw [if_neg (by omega)]
  | succ f ih =>
    intro g p h1 h2
    cases g with
    | zero => simp only [placesF]; rw [if_neg (by omega)]
    | succ g =>
      simp only [placesF]
      split
      · rename_i h
        rw [ih g _ (by omega) (by omega)]
      · rfl
theorem places_bad (xs : List Int) (p : Nat) (err : Int) (h : findS (xs.drop p) = (0, 0, 0, err)) : placesS xs p = [] := by
  rw [placesS, placesF_any xs _ (xs.length - p + 1) p (Nat.le_refl _) (by omega), placesF, h, if_neg]; simp
theorem places_end (xs : List Int) (p : Nat) (h : xs.length ≤ p) : placesS xs p = [] := by
  rw [placesS, placesF_any xs _ (xs.length - p + 1) p (Nat.le_refl _) (by omega), placesF, if_neg]; omega
theorem places_ok (xs : List Int) (p : Nat) (t : Int) (l h : Nat) (hp : p < xs.length) (he : findS (xs.drop p) = (t, (l : Int), (h : Int), 0)) (h0 : 0 < h) : placesS xs p = p :: placesS xs (p + h) := by
  rw [placesS, placesF_any xs _ (xs.length - p + 1) p (Nat.le_refl _) (by omega), placesF, he, if_pos (by simp; omega)]
  simp only [Int.toNat_natCast]
  rw [placesS, placesF_any xs _ (xs.length - (p + h)) (p + h) (by omega) (Nat.le_refl _)]

/-- A place at which an element begins. -/
abbrev Pl (xs : List Int) := { p : Nat // p < xs.length ∧ (findS (xs.drop p)).2.2.2 = 0 }
def encP (xs : List Int) (x : Pl xs) : Array Value := #[.int .i64 (x.1 : Int), .agg #[.int .i64 (findS (xs.drop x.1)).1, .int .i64 (findS (xs.drop x.1)).2.1, .int .i64 (findS (xs.drop x.1)).2.2.1]]

/-- What a round of the loop keeps: what lay below n₀, what the cell at Bs holds, and each span. -/
structure KpB (n₀ Bs : Nat) (A B : World) : Prop where
  below : Below n₀ A B
  cell : ∀ v, A.cell? ⟨Bs, 0, none⟩ = some v → B.cell? ⟨Bs, 0, none⟩ = some v
  span : ∀ (k : Nat) (c : Array Value), A.heap[k]? = some (Obj.cells c 165 (0, 0)) → B.heap[k]? = some (Obj.cells c 165 (0, 0))
theorem KpB.refl (n₀ Bs : Nat) (A : World) : KpB n₀ Bs A A := ⟨Below.refl _ _, fun _ h => h, fun _ _ h => h⟩
theorem KpB.trans {n₀ Bs : Nat} {A B C : World} (h : KpB n₀ Bs A B) (k : KpB n₀ Bs B C) : KpB n₀ Bs A C := ⟨h.below.trans k.below, fun v e => k.cell v (h.cell v e), fun i c e => k.span i c (h.span i c e)⟩
theorem KpB.put {n₀ Bs : Nat} {w : World} (hn : n₀ ≤ w.heap.size) (W : World) (l : Nat) (o o' : Obj) (hl : w.heap.size ≤ l) (h : W.heap[l]? = some o) (hc : o.isCells = false) (hw : o.isWalk = false) : KpB n₀ Bs W (W.putObj l o') := by
  refine ⟨belowK_b hn W l o o' hl h hc hw, fun v e => cell_kept e (grownBy_putObj' W l o') (fun r e => by cases e; exact ⟨_, h, hc⟩), fun k c e => ?_⟩
  by_cases hk : k = l
  · subst hk; rw [h] at e; cases e; simp [Obj.isCells] at hc
  · rw [World.putObj_heap_other hk]; exact e

set_option maxRecDepth 100000 in
set_option maxHeartbeats 4000000 in
theorem spans1_pre (n : Nat) (hn : 1 ≤ n) (l Bs : Nat) (ao : Option Addr) (len cap : Nat) (xs : List Int) (hN : (len : Int) ≤ 140737488355328) (J Jx : List (Pl xs) → World → Prop) (w W : World)
    (hY : ∀ pre x W1, J pre W1 → pre.length < xs.length → (pre ++ [x]).map (·.1) <+: placesS xs 0 → YieldAt Fence.wide (n - 1) Tryz.prog l (encP xs x) W1 fun e W' =>
      (e = .returned (.bool true) ∧ J (pre ++ [x]) W' ∧ KpB w.heap.size Bs W1 W') ∨ (e = .returned (.bool false) ∧ Jx (pre ++ [x]) W'))
    (hs : Src w ao len cap xs) (hW : Below w.heap.size w W) (hA : AbidesFrom W.heap.size J) (hBs : W.cell? ⟨Bs, 0, none⟩ = some (.slice ao len cap)) (h0 : J [] W) :
    CallsIn Fence.wide n Tryz.prog 167 #[.func (.yield l) #[] #[], .pointer (some ⟨Bs, 0, none⟩)] W fun e W' => (∃ v, e = .returned v) ∧
      ((∃ ys : List (Pl xs), ys.map (·.1) = placesS xs 0 ∧ J ys W') ∨ (∃ pre : List (Pl xs), pre.map (·.1) <+: placesS xs 0 ∧ Jx pre W')) := by
  have hl := hs.hlen
  have hnc := hs.hcap
  refine callsIn_of_wp Tryz.func167 rfl trivial ?_ rfl
  simp only [Tryz.ntmps167, List.size_toArray, List.length_cons, List.length_nil, Nat.reduceAdd, Nat.reduceSub, Array.replicate_succ, Array.replicate_zero, List.push_toArray, List.append_toArray, List.nil_append, List.cons_append]
  gi_wp2
  gi_loopw [3] (fun i wr => ∃ (p : Nat) (pre : List (Pl xs)), i = .int .i64 p ∧ p ≤ len ∧ pre.map (·.1) ++ placesS xs p = placesS xs 0 ∧ pre.length ≤ p ∧ J pre wr ∧ Below w.heap.size w wr ∧ wr.cell? ⟨Bs, 0, none⟩ = some (.slice ao len cap))
    (fun i _ => len - (intOf i).toNat)
  case atStart => exact ⟨0, [], rfl, Nat.zero_le _, by simp, by simp, h0, hW, hBs⟩
  case round =>
    obtain ⟨p, pre, rfl, hp, hpl, hpn, hJs, hB, hc⟩ := hrel
    by_cases hlt : p < len
    · have hs1 := (hs.below hB).cut p len hp (Nat.le_refl _)
      have ed : (xs.take len).drop p = xs.drop p := by rw [List.take_of_length_le (by omega)]
      rw [ed] at hs1
      have sl := fun X => slice_lo X ao len cap p p rfl hp
      generalize cutA ao cap p = A at hs1 sl
      have hltI : (p : Int) < (len : Int) := by omega
      rcases findS_cases (xs.drop p) hs1.hbyt with ⟨err, h1, h2, h3, he⟩ | ⟨a, b, he, h1, h2, h3, h4, h5⟩
      · have HE := hide he
        have HP := hide hpl
        have h1' : (err != 0) = true := by simpa using h1
        clear he h1 hl hpl ed
        gi_wp2_with (refine ⟨trivial, ?_⟩; gi_at_call 144; refine (callsIn_wide.2 (find_any _ _ _ (xs.drop p) _ (by exact hs1) (by omega))).mono ?_; rintro e w1 ⟨rfl, B1⟩; rw [HE.out]; unfold spanV; have J1 := hA _ _ _ none hJs (grown_of_below B1) (by intro r e; cases e))
        refine ⟨fun _ h => (by cases h), ?_⟩
        gi_wp2
        refine bodyPost_ret (results_none rfl _ _ _) rfl ?_
        exact ⟨⟨_, rfl⟩, .inl ⟨pre, by rw [← HP.out, places_bad xs p err HE.out, List.append_nil], hA _ _ _ none J1 (World.grownBy_alloc _ _ none) (by intro r e; cases e)⟩⟩
      · have hb : p + b ≤ len := by simp [hl] at h4; omega
        have hx : (findS (xs.drop p)).2.2.2 = 0 := by rw [he]
        obtain ⟨x, hxp⟩ : ∃ x : Pl xs, x.1 = p := ⟨⟨p, by omega, hx⟩, rfl⟩
        have hpl' : (pre ++ [x]).map (·.1) ++ placesS xs (p + b) = placesS xs 0 := by
          rw [← hpl, places_ok xs p _ a b (by omega) he (by omega)]; simp [hxp]
        obtain ⟨t, ht⟩ : ∃ t, (xs.drop p).getD 0 0 = t := ⟨_, rfl⟩
        rw [ht] at he
        have hE : encP xs x = #[.int .i64 (p : Int), .agg #[.int .i64 t, .int .i64 (a : Int), .int .i64 (b : Int)]] := by simp only [encP, hxp, he]
        have hY' := fun W1 (h : J pre W1) => hY pre x W1 h (by omega) ⟨_, hpl'⟩
        rw [hE] at hY'
        have HY := hide hY'
        have HE := hide he
        have HP := hide hpl'
        clear he hx hl hpl hpl' ed ht hY hY' hE hxp h4
        gi_wp2_with (refine ⟨trivial, ?_⟩; gi_at_call 144; refine (callsIn_wide.2 (find_any _ _ _ (xs.drop p) _ (by exact hs1) (by omega))).mono ?_; rintro e w1 ⟨rfl, B1⟩; rw [HE.out]; unfold spanV; have J1 := hA _ _ _ none hJs (grown_of_below B1) (by intro r e; cases e); obtain ⟨fn, tmps, assign, body, hy, hR⟩ := HY.out (w1.alloc (.cells #[.int .i64 t, .int .i64 a, .int .i64 b] 165)) (hA _ _ _ none J1 (World.grownBy_alloc _ _ none) (by intro r e; cases e)))
        refine hR.mono ?_
        rintro e W3 (⟨rfl, hJ3, hk3⟩ | ⟨rfl, hJx3⟩)
        · have hb3 := hk3.span w1.heap.size #[.int .i64 t, .int .i64 a, .int .i64 b] (World.alloc_heap_new _ _)
          have hc3 : W3.cell? ⟨w1.heap.size, 2, none⟩ = some (.int .i64 b) := by simp [World.cell?, hb3]
          have hd3 := hk3.cell _ (cell_kept ((B1.cell (p := ⟨Bs, 0, none⟩) (lt_of_cell hc)).trans hc) (World.grownBy_alloc _ _ none) (fun r e => by cases e))
          have hB3 := (((hB.trans (B1.mono hB.size)).alloc (Nat.le_trans hB.size B1.size) _)).trans hk3.below
          clear hb3
          gi_wp2
          go_roundw
          case rel => exact ⟨p + b, pre ++ [x], by simp, hb, HP.out, by simp; omega, hJ3, hB3, hd3⟩
          case measure => simp [intOf]; omega
        · gi_wp2
          refine bodyPost_ret (results_none rfl _ _ _) rfl ?_
          exact ⟨⟨_, rfl⟩, .inr ⟨pre ++ [x], ⟨_, HP.out⟩, hJx3⟩⟩
    · obtain rfl : p = len := by omega
      gi_wp2
      go_end0
      exact ⟨⟨_, rfl⟩, .inl ⟨pre, by rw [← hpl, places_end xs p (by omega), List.append_nil], hJs⟩⟩

theorem spans1_in (n : Nat) (hn : 1 ≤ n) (l Bs : Nat) (ao : Option Addr) (len cap : Nat) (xs : List Int) (hN : (len : Int) ≤ 140737488355328) (J Jx : List (Pl xs) → World → Prop) (w W : World)
    (hY : ∀ pre x W1, J pre W1 → pre.length < xs.length → YieldAt Fence.wide (n - 1) Tryz.prog l (encP xs x) W1 fun e W' =>
      (e = .returned (.bool true) ∧ J (pre ++ [x]) W' ∧ KpB w.heap.size Bs W1 W') ∨ (e = .returned (.bool false) ∧ Jx (pre ++ [x]) W'))
    (hs : Src w ao len cap xs) (hW : Below w.heap.size w W) (hA : AbidesFrom W.heap.size J) (hBs : W.cell? ⟨Bs, 0, none⟩ = some (.slice ao len cap)) (h0 : J [] W) :
    CallsIn Fence.wide n Tryz.prog 167 #[.func (.yield l) #[] #[], .pointer (some ⟨Bs, 0, none⟩)] W fun e W' => (∃ v, e = .returned v) ∧
      ((∃ ys : List (Pl xs), ys.map (·.1) = placesS xs 0 ∧ J ys W') ∨ (∃ pre : List (Pl xs), pre.map (·.1) <+: placesS xs 0 ∧ Jx pre W')) :=
  spans1_pre n hn l Bs ao len cap xs hN J Jx w W (fun pre x W1 h1 h2 _ => hY pre x W1 h1 h2) hs hW hA hBs h0

/-- What der.spans answers. -/
theorem spans_in (n : Nat) (ao : Option Addr) (len cap : Nat) (w : World) :
    CallsIn Fence.wide n Tryz.prog 148 #[.slice ao len cap] w fun e w' => e = .returned (.func (.func 167) #[] #[.pointer (some ⟨w.heap.size, 0, none⟩)]) ∧ w' = w.alloc (.cells #[.slice ao len cap] 64) := by
  refine callsIn_of_wp Tryz.func148 rfl trivial ?_ rfl
  simp only [Tryz.ntmps148, List.size_toArray, List.length_cons, List.length_nil, Nat.reduceAdd, Nat.reduceSub, Array.replicate_succ, Array.replicate_zero, List.push_toArray, List.append_toArray, List.nil_append, List.cons_append]
  gi_wp2
  go_ret
  exact ⟨rfl, rfl⟩

theorem spans_stops (n : Nat) (hn : 1 ≤ n) (Bs : Nat) (ao : Option Addr) (len cap : Nat) (xs : List Int) (hN : (len : Int) ≤ 140737488355328) (w w0 : World) (hs : Src w ao len cap xs) (hb : Below w.heap.size w w0) (hBs : w0.cell? ⟨Bs, 0, none⟩ = some (.slice ao len cap)) :
    SeqStopsK Fence.wide n Tryz.prog 167 #[.pointer (some ⟨Bs, 0, none⟩)] (encP xs) (KpB w.heap.size Bs) (fun ys => ys.map (·.1) = placesS xs 0) (fun pre => pre.map (·.1) <+: placesS xs 0) xs.length w0 :=
  fun l J Jx W hW hJ _ hY h0 =>
    spans1_in n hn l Bs ao len cap xs hN J Jx w W hY hs (hb.trans (hW.mono hb.size)) hJ ((hW.cell (p := ⟨Bs, 0, none⟩) (lt_of_cell hBs)).trans hBs) h0

end Go.Proofs.YtklchpdpooikdaaGreatDoor

namespace Go.Proofs.YtklchpdpooikdaaGreatDoor
open Go.RowKit Go.Shelf Go.IntWalk
attribute [local go_sem] Oper.semAt_some

/-- The builtin append, under a name that the walk doesn't open. -/
def appOfD (ats : Array TypeId) (ty : TypeId) (args : Array Value) : Sem Value := Builtin.append_ ats ty args
theorem appOfD_of (ats : Array TypeId) (ty : TypeId) (args : Array Value) : Builtin.append_ ats ty args = appOfD ats ty args := rfl
attribute [local go_sem ↓] appOfD_of

theorem Tryz.infoE : (Tryz.prog.info? 130).map (fun i => (i.zero, i.size, i.bytes)) = some (some (.agg #[.int .i64 0, .slice none 0 0]), 2, 32) := by kernel_rfl

theorem row_kept {W W' : World} {row : Option Nat} {base : Nat} {e : TypeId} {size : Nat} {v : Value} {k : Nat} {xs : List Value} (h : W.ownsRow base e size v k xs) (hg : W.grownBy W' row)
    (hr : ∀ r, row = some r → ∀ c, W.heap[r]? ≠ some (Obj.cells c e (0, 0))) : W'.ownsRow base e size v k xs := by
  obtain ⟨hl, h | ⟨g, cap, cur, rfl, hb, hh, rest⟩⟩ := h
  · exact ⟨hl, .inl h⟩
  · exact ⟨hl, .inr ⟨g, cap, cur, rfl, hb, (hg.block g (Array.getElem?_eq_some_iff.1 hh).1 (fun e => hr g e.symm cur hh)).trans hh, rest⟩⟩

/-- The cells of a row of elements. -/
def EMatch (W : World) (base : Nat) : List Value → List (Int × List Int) → Prop
  | [], [] => True
  | a :: s :: cs, e :: es => a = .int .i64 e.1 ∧ (∃ ao m c, s = .slice ao m c) ∧ OwnB W base s e.2 ∧ EMatch W base cs es
  | _, _ => False

theorem EMatch.kept {W W' : World} {base : Nat} (hk : ∀ s xs, OwnB W base s xs → OwnB W' base s xs) : ∀ {cs : List Value} {es : List (Int × List Int)}, EMatch W base cs es → EMatch W' base cs es
  | [], [], _ => trivial
  | _ :: _ :: _, _ :: _, ⟨h1, h2, h3, h4⟩ => ⟨h1, h2, hk _ _ h3, EMatch.kept hk h4⟩
theorem EMatch.snoc {W : World} {base : Nat} {t : Int} {ao : Option Addr} {m c : Nat} {ys : List Int} (ho : OwnB W base (.slice ao m c) ys) :
    ∀ {cs : List Value} {es : List (Int × List Int)}, EMatch W base cs es → EMatch W base (cs ++ [.int .i64 t, .slice ao m c]) (es ++ [(t, ys)])
  | [], [], _ => ⟨rfl, ⟨_, _, _, rfl⟩, ho, trivial⟩
  | _ :: _ :: _, _ :: _, ⟨h1, h2, h3, h4⟩ => ⟨h1, h2, h3, EMatch.snoc ho h4⟩

theorem EMatch.len {W : World} {base : Nat} : ∀ {cs : List Value} {es : List (Int × List Int)}, EMatch W base cs es → cs.length = 2 * es.length
  | [], [], _ => rfl
  | _ :: _ :: _, _ :: _, ⟨_, _, _, h4⟩ => by simp only [List.length_cons]; have := EMatch.len h4; omega

theorem EMatch.lt {W : World} {base : Nat} : ∀ {cs : List Value} {es : List (Int × List Int)}, EMatch W base cs es → ∀ i s, cs[2 * i + 1]? = some s → ∀ g, s.ownBlock = some g → g < W.heap.size
  | [], [], _, i, s, h, _, _ => by simp at h
  | _ :: _ :: _, _ :: _, ⟨_, _, h3, h4⟩, i, s, h, g, hg => by
    cases i with
    | zero =>
      simp at h
      subst h
      exact (World.ownsRow.lt h3 g hg).2
    | succ i => exact EMatch.lt h4 i s (by rw [show 2 * (i + 1) + 1 = 2 * i + 1 + 1 + 1 by omega] at h; simpa using h) g hg

/-- No two contents of a row of elements lie in one block. -/
def EApart (cs : List Value) : Prop := ∀ i j s s', i < j → cs[2 * i + 1]? = some s → cs[2 * j + 1]? = some s' → ∀ g, s.ownBlock = some g → s'.ownBlock ≠ some g

theorem EApart.nil : EApart [] := fun i j s s' _ h => by simp at h

theorem EApart.snoc {W w1 : World} {base : Nat} {cs : List Value} {es : List (Int × List Int)} (h : EApart cs) (hm : EMatch W base cs es) {t : Int} {s0 : Value} {ys : List Int} (hO : OwnB w1 W.heap.size s0 ys) : EApart (cs ++ [.int .i64 t, s0]) := by
  intro i j s s' hij h1 h2 g hg hg'
  have hl := hm.len
  rcases Nat.lt_or_ge (2 * j + 1) cs.length with hj | hj
  · rw [List.getElem?_append_left (by omega)] at h1 h2
    exact h i j s s' hij h1 h2 g hg hg'
  · rw [List.getElem?_append_right hj] at h2
    have hj2 : 2 * j + 1 - cs.length = 1 := by
      rcases Nat.lt_or_ge (2 * j + 1 - cs.length) 2 with h' | h'
      · omega
      · rw [List.getElem?_eq_none (by simpa using h')] at h2; cases h2
    rw [hj2] at h2
    simp at h2
    subst h2
    rw [List.getElem?_append_left (by omega)] at h1
    have k1 := hm.lt i s h1 g hg
    have k2 := (World.ownsRow.lt hO g hg').1
    omega

def elS (xs : List Int) (p : Nat) : Int × List Int := ((findS (xs.drop p)).1, contS (xs.drop p))
/-- Where the last of these places' element ends. -/
def endS (xs : List Int) (ps : List Nat) : Nat := match ps.getLast? with
  | none => 0
  | some p => p + (findS (xs.drop p)).2.2.1.toNat
theorem endS_snoc (xs : List Int) (ps : List Nat) (p : Nat) : endS xs (ps ++ [p]) = p + (findS (xs.drop p)).2.2.1.toNat := by simp [endS]

theorem cell_two_new (w : World) (x y : Value) (t : TypeId) : ∀ j u, [x, y][j]? = some u → (w.alloc (.cells #[x, y] t)).cell? ((⟨w.heap.size, 0, none⟩ : Addr).add j) = some u := by
  intro j u hj
  match j, hj with
  | 0, hj => simpa [Addr.add] using hj
  | 1, hj => simpa [Addr.add] using hj
  | _ + 2, hj => simp at hj

theorem KpB.grown {n₀ Bs : Nat} {W W' : World} {row : Option Nat} (hg : W.grownBy W' row) (hn : n₀ ≤ W.heap.size)
    (hr : ∀ r, row = some r → n₀ ≤ r ∧ r ≠ Bs ∧ ∀ c, W.heap[r]? ≠ some (Obj.cells c 165 (0, 0))) : KpB n₀ Bs W W' := by
  refine ⟨(Below.refl n₀ W).grown hg hn (fun k e => (hr k e).1), fun v e => ?_, fun k c e => ?_⟩
  · have hlt := lt_of_cell e
    unfold World.cell? at e ⊢
    rw [show W'.heap[Bs]? = W.heap[Bs]? from hg.block Bs hlt (fun e => (hr Bs e.symm).2.1 rfl)]
    exact e
  · exact (hg.block k (Array.getElem?_eq_some_iff.1 e).1 (fun e' => (hr k e'.symm).2.2 c e)).trans e

/-- What All answers. -/
structure AllAns (W : World) (base : Nat) (xs : List Int) (v : Value) (pl err : Int) : Prop where
  place : pl = (endS xs (placesS xs 0) : Int)
  short : endS xs (placesS xs 0) < xs.length → v = .slice none 0 0 ∧ err = (findS (xs.drop (endS xs (placesS xs 0)))).2.2.2
  whole : ¬ endS xs (placesS xs 0) < xs.length → err = 0 ∧ ∃ cs, W.ownsRow base 130 2 v (placesS xs 0).length cs ∧ EMatch W base cs ((placesS xs 0).map (elS xs)) ∧ (v = .slice none 0 0 ↔ placesS xs 0 = []) ∧ EApart cs

theorem KeepsOthers.below {A B : World} (h : Below A.heap.size A B) : KeepsOthers A B := KeepsOthers.of_grownBy (grown_of_below (r := none) h) (by intro j o e; cases e)

end Go.Proofs.YtklchpdpooikdaaGreatDoor

namespace Go.Proofs.YtklchpdpooikdaaGreatDoor
open Go.RowKit Go.IntWalk

set_option maxRecDepth 100000 in
theorem each_any (ao : Option Addr) (n cap : Nat) (xs : List Int) (w : World) (hs : Src w ao n cap xs) (hN : n ≤ 140737488355328) :
    Calls Tryz.prog 119 #[.slice ao n cap] w fun e w' => ∃ ao' c' B, e = .returned (.func (.func 147) #[] #[.pointer (some ⟨B, 0, none⟩)]) ∧ OwnB w' w.heap.size (.slice ao' n c') xs ∧ w.heap.size ≤ B ∧ Boxed w' B 64 (.slice ao' n c') ∧ Below w.heap.size w w' := by
  go_enter Tryz.func119, Tryz.ntmps119
  go_wp2_with (go_at_call 146; refine (cloneE_any ao n cap xs _ hs hN).mono ?_; rintro e w1 ⟨ao', c', rfl, hO, B1⟩)
  go_ret
  exact ⟨ao', c', w1.heap.size, rfl, hO.alloc _, B1.size, Boxed.new w1 64 (.slice ao' n c'), B1.alloc B1.size _⟩

end Go.Proofs.YtklchpdpooikdaaGreatDoor
